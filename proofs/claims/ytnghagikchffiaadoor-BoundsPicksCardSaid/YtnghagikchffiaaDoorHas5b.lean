/-
  Layer 5: the contract of the answer's Has. Own work.
-/
import Derived.Test.YtnghagikchffiaaDoorHas5
namespace Go.Proofs.YtnghagikchffiaaDoor
set_option linter.unusedVariables false
set_option linter.unusedSimpArgs false
open Go.RowKit

def rLo (p : Iv) (v : ByteArray) : Int := if p.lo.has then cmpB p.lo.ver.data.toList v.data.toList else -1
def rHi (p : Iv) (v : ByteArray) : Int := if p.hi.has then cmpB p.hi.ver.data.toList v.data.toList else 1
theorem rLo_rng (p : Iv) (v : ByteArray) : rLo p v = -1 ∨ rLo p v = 0 ∨ rLo p v = 1 := by
  unfold rLo; split
  · exact cmpB_ord.rng _ _
  · exact .inl rfl
theorem rHi_rng (p : Iv) (v : ByteArray) : rHi p v = -1 ∨ rHi p v = 0 ∨ rHi p v = 1 := by
  unfold rHi; split
  · exact cmpB_ord.rng _ _
  · exact .inr (.inr rfl)
def refIn (p : Iv) (v : ByteArray) : Bool := (decide (rLo p v = -1) || (decide (rLo p v = 0) && p.lo.cl)) && (decide (rHi p v = 1) || (decide (rHi p v = 0) && p.hi.cl))
theorem refIn_eq (p : Iv) (v : ByteArray) : refIn p v = inB p v := by
  unfold refIn inB
  congr 1
  · unfold rLo
    cases hp : p.lo.has
    · simp
    · simp only [if_true, Bool.not_true, Bool.false_or]
      unfold someB cE atE
      rcases cmpB_ord.rng p.lo.ver.data.toList v.data.toList with h | h | h <;> rw [h] <;> simp
  · unfold rHi
    cases hp : p.hi.has
    · simp
    · simp only [if_true, Bool.not_true, Bool.false_or]
      unfold someB cE atE
      have hn := cmpB_ord.neg v.data.toList p.hi.ver.data.toList
      rcases cmpB_ord.rng p.hi.ver.data.toList v.data.toList with h | h | h
      all_goals
        have h2 : cmpB v.data.toList p.hi.ver.data.toList = - cmpB p.hi.ver.data.toList v.data.toList := by omega
        simp only [h2, h]
        simp
set_option maxRecDepth 100000 in
set_option maxHeartbeats 1000000 in
theorem refHas_at (hard : Bool) (ver : ByteArray) (pv : Value) (l : List Iv) (v : ByteArray) (hl : ∀ p ∈ l, smallI p) (hv : v.size ≤ 100000) (w : World) (hr : RdI w pv l) :
    Calls Tryd.prog 18 #[.agg #[.bool hard, .string ver, pv], .string v] w fun r w' => r = .returned (.bool (!hard || l.any fun p => inB p v)) ∧ Below w.heap.size w w' := by
  obtain ⟨pa, pc, rfl⟩ : ∃ a c, pv = .slice a l.length c := by
    rcases hr with ⟨rfl, rfl⟩ | ⟨a, cap, rfl, _⟩
    · exact ⟨_, _, rfl⟩
    · exact ⟨_, _, rfl⟩
  have hlb : (l.length : Int) ≤ 9223372036854775807 := by
    rcases hr with ⟨_, rfl⟩ | ⟨a, cap, h, h1, h2, _⟩
    · simp
    · omega
  have HR := Lib.hid hr; clear hr
  have HB0 := Lib.hid ((Below.refl w.heap.size w).alloc (Nat.le_refl _) (.cells #[.bool hard, .string ver, .slice pa l.length pc] 25))
  cases hard
  · go_enter Tryd.func18, Tryd.ntmps18
    go_wp2
    go_ret
    exact ⟨rfl, HB0.out⟩
  go_enter Tryd.func18, Tryd.ntmps18
  go_wp2_with fail
  generalize w.alloc (.cells #[.bool true, .string ver, .slice pa l.length pc] 25) = w1 at HB0 ⊢
  go_loopw [15] (fun i wr => ∃ k : Nat, k ≤ l.length ∧ i = .int .i64 k ∧ (l.take k).any (fun p => inB p v) = false ∧ Below w.heap.size w wr) (fun i _ => l.length - (intOf i).toNat)
  case atStart => exact ⟨0, by omega, rfl, by simp, HB0.out⟩
  case round =>
    obtain ⟨k, hk, rfl, hno, hb⟩ := hrel
    have HNO := Lib.hid hno
    have HB := Lib.hid hb
    clear hno
    by_cases hlt : k < l.length
    · obtain ⟨p, hp⟩ : ∃ p, l[k]? = some p := ⟨_, List.getElem?_eq_getElem hlt⟩
      obtain ⟨a, cap, hpv, _, _, hc⟩ : ∃ a cap, Value.slice pa l.length pc = .slice (some a) l.length cap ∧ l.length ≤ cap ∧ cap ≤ 9223372036854775807 ∧ ∀ (i : Nat) p, l[i]? = some p → ∀ (c : Nat) u, (ivCells p)[c]? = some u → w.cell? (a.add (i * 6 + c)) = some u := by
        rcases HR.out with ⟨_, h⟩ | h
        · subst h; simp at hlt
        · exact h
      cases hpv
      obtain ⟨k0, k1, k2, k3, k4, k5⟩ := RdI.at hc hp hb (Nat.le_refl _)
      obtain ⟨sl1, sl2⟩ := hl p (List.mem_of_getElem? hp)
      have HP := Lib.hid hp
      have hlt' : (k : Int) < l.length := by omega
      have HST := Lib.hid (fun wx h => six_at (w := wr) (wx := wx) p h)
      have c1 := fun w => refCompare_any p.lo.ver v sl1 hv w
      have c2 := fun w => refCompare_any p.hi.ver v sl2 hv w
      have hin := refIn_eq p v
      have hri : refIn p v = ((decide (rLo p v = -1) || (decide (rLo p v = 0) && p.lo.cl)) && (decide (rHi p v = 1) || (decide (rHi p v = 0) && p.hi.cl))) := rfl
      have hrl : rLo p v = if p.lo.has then cmpB p.lo.ver.data.toList v.data.toList else -1 := rfl
      have hrh : rHi p v = if p.hi.has then cmpB p.hi.ver.data.toList v.data.toList else 1 := rfl
      have r1 := rLo_rng p v
      have r2 := rHi_rng p v
      generalize rLo p v = x at hri hrl r1
      generalize rHi p v = y at hri hrh r2
      rw [hin] at hri
      have HFR := Lib.hid (fun wx (h : Below (wr.heap.size + 1) (wr.alloc (.cells #[.bool p.lo.has, .string p.lo.ver, .bool p.lo.cl, .bool p.hi.has, .string p.hi.ver, .bool p.hi.cl] 61)) wx) => HB.out.trans ((((Below.refl wr.heap.size wr).alloc (Nat.le_refl _) _).trans (h.mono (by omega))).mono HB.out.size))
      have BZ := Lib.hid (Below.refl (wr.heap.size + 1) (wr.alloc (.cells #[.bool p.lo.has, .string p.lo.ver, .bool p.lo.cl, .bool p.hi.has, .string p.hi.ver, .bool p.hi.cl] 61)))
      obtain ⟨⟨lh, lv, lc⟩, ⟨hh, hv2, hc⟩⟩ := p
      have HRI := Lib.hid hri
      clear hri hp hb hin sl1 sl2
      simp only at k0 k1 k2 k3 k4 k5 c1 c2 hrl hrh
      cases lh
      · cases hh
        · simp only [if_true, if_false, Bool.false_eq_true] at hrl hrh
          clear c1 c2
          subst hrl
          subst hrh
          clear r1
          clear r2
          cases lc <;> cases hc
          all_goals
            go_wp2
            first
              | (go_ret
                 exact ⟨ret_bool (any_hit HP.out (by rw [HRI.out]; rfl)).symm, HFR.out _ BZ.out⟩)
              | (go_roundw
                 case rel => exact ⟨k + 1, by omega, by go_num, any_snoc HP.out HNO.out (by rw [HRI.out]; rfl), HFR.out _ BZ.out⟩
                 case measure => simp [intOf]; omega)
        · simp only [if_true, if_false, Bool.false_eq_true] at hrl hrh
          rw [← hrh] at c2
          have C2 := Lib.hid c2
          clear c1 c2
          subst hrl
          clear hrh
          go_wp2_with fail
          refine (C2.out _).mono ?_
          rintro e w3 ⟨rfl, hb3⟩
          have BZ3 := Lib.hid (BZ.out.trans (hb3.mono (Nat.le_trans (by simp) BZ.out.size)))
          clear BZ hb3
          have BZ := BZ3
          clear BZ3
          obtain ⟨s0, s1, s2, s3, s4, s5⟩ := HST.out w3 BZ.out
          clear r1
          rcases r2 with rfl | rfl | rfl <;> cases lc <;> cases hc
          all_goals
            go_wp2
            first
              | (go_ret
                 exact ⟨ret_bool (any_hit HP.out (by rw [HRI.out]; rfl)).symm, HFR.out _ BZ.out⟩)
              | (go_roundw
                 case rel => exact ⟨k + 1, by omega, by go_num, any_snoc HP.out HNO.out (by rw [HRI.out]; rfl), HFR.out _ BZ.out⟩
                 case measure => simp [intOf]; omega)
      · cases hh
        · simp only [if_true, if_false, Bool.false_eq_true] at hrl hrh
          rw [← hrl] at c1
          have C1 := Lib.hid c1
          clear c1 c2
          clear hrl
          subst hrh
          go_wp2_with fail
          refine (C1.out _).mono ?_
          rintro e w3 ⟨rfl, hb3⟩
          have BZ3 := Lib.hid (BZ.out.trans (hb3.mono (Nat.le_trans (by simp) BZ.out.size)))
          clear BZ hb3
          have BZ := BZ3
          clear BZ3
          obtain ⟨s0, s1, s2, s3, s4, s5⟩ := HST.out w3 BZ.out
          clear r2
          rcases r1 with rfl | rfl | rfl <;> cases lc <;> cases hc
          all_goals
            go_wp2
            first
              | (go_ret
                 exact ⟨ret_bool (any_hit HP.out (by rw [HRI.out]; rfl)).symm, HFR.out _ BZ.out⟩)
              | (go_roundw
                 case rel => exact ⟨k + 1, by omega, by go_num, any_snoc HP.out HNO.out (by rw [HRI.out]; rfl), HFR.out _ BZ.out⟩
                 case measure => simp [intOf]; omega)
        · simp only [if_true, if_false, Bool.false_eq_true] at hrl hrh
          rw [← hrl] at c1
          have C1 := Lib.hid c1
          rw [← hrh] at c2
          have C2 := Lib.hid c2
          clear c1 c2
          clear hrl
          clear hrh
          go_wp2_with fail
          refine (C1.out _).mono ?_
          rintro e w3 ⟨rfl, hb3⟩
          have BZ3 := Lib.hid (BZ.out.trans (hb3.mono (Nat.le_trans (by simp) BZ.out.size)))
          clear BZ hb3
          have BZ := BZ3
          clear BZ3
          obtain ⟨s0, s1, s2, s3, s4, s5⟩ := HST.out w3 BZ.out
          go_wp2_with fail
          refine (C2.out _).mono ?_
          rintro e w4 ⟨rfl, hb4⟩
          have BZ4 := Lib.hid (BZ.out.trans (hb4.mono (Nat.le_trans (by simp) BZ.out.size)))
          clear BZ hb4
          have BZ := BZ4
          clear BZ4
          clear s0 s1 s2 s3 s4 s5
          obtain ⟨s0, s1, s2, s3, s4, s5⟩ := HST.out w4 BZ.out
          rcases r1 with rfl | rfl | rfl <;> rcases r2 with rfl | rfl | rfl <;> cases lc <;> cases hc
          all_goals
            go_wp2
            first
              | (go_ret
                 exact ⟨ret_bool (any_hit HP.out (by rw [HRI.out]; rfl)).symm, HFR.out _ BZ.out⟩)
              | (go_roundw
                 case rel => exact ⟨k + 1, by omega, by go_num, any_snoc HP.out HNO.out (by rw [HRI.out]; rfl), HFR.out _ BZ.out⟩
                 case measure => simp [intOf]; omega)
    · have hkl : k = l.length := by omega
      have hkI : (l.length : Int) ≤ k := by omega
      have HF := Lib.hid (show l.any (fun p => inB p v) = false by have := HNO.out; rw [hkl, List.take_length] at this; exact this)
      clear hkl hb
      go_wp2
      go_ret
      exact ⟨ret_bool (by rw [HF.out]; rfl), HB.out⟩
end Go.Proofs.YtnghagikchffiaaDoor
