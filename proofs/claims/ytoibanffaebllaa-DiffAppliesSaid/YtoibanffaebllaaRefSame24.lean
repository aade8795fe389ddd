/-
  Layer 24: the contract of the answer's Same. Own work.
-/
import Derived.Test.YtoibanffaebllaaSame24
namespace Go.Proofs.Ytoibanffaebllaa
set_option linter.unusedVariables false
set_option linter.unusedSimpArgs false
open Go.RowKit

set_option maxRecDepth 100000 in
set_option maxHeartbeats 4000000 in
theorem refSame_any (g a v g' a' v' : ByteArray) (v1 v2 : Value) (l m : List Pn) (hl : l.length ≤ 1000000) (hm : m.length ≤ 1000000) (w : World) (h1 : RdN w v1 l) (h2 : RdN w v2 m) :
    Calls Try.prog 17 #[lockV g a v v1, lockV g' a' v' v2] w fun e w' => e = .returned (.bool (sameLk g a v l g' a' v' m)) ∧ Below w.heap.size w w' := by
  have HSK := Lib.hid (show sameLk g a v l g' a' v' m = (sameG g a v g' a' v' && sameL l m) from rfl)
  have hb0 : Below w.heap.size w ((w.alloc (.cells #[.string g, .string a, .string v, v1] 26)).alloc (.cells #[.string g', .string a', .string v', v2] 26)) := ((Below.refl w.heap.size w).alloc (Nat.le_refl _) _).alloc (by simp) _
  have hk1 : LkIn ((w.alloc (.cells #[.string g, .string a, .string v, v1] 26)).alloc (.cells #[.string g', .string a', .string v', v2] 26)) w.heap.size g a v v1 := (LkIn.new w g a v v1).below ((Below.refl _ _).alloc (Nat.le_refl _) _) (Nat.le_refl _)
  have hk2 : LkIn ((w.alloc (.cells #[.string g, .string a, .string v, v1] 26)).alloc (.cells #[.string g', .string a', .string v', v2] 26)) (w.heap.size + 1) g' a' v' v2 := by
    have := LkIn.new (w.alloc (.cells #[.string g, .string a, .string v, v1] 26)) g' a' v' v2
    simpa using this
  obtain ⟨a1, c1, rfl⟩ := h1.shape
  obtain ⟨a2, c2, rfl⟩ := h2.shape
  have HR1 := Lib.hid h1
  have HR2 := Lib.hid h2
  clear h1 h2
  have hlI : (l.length : Int) ≤ 1000000 := by omega
  unfold lockV
  rcases sameG_cases g a v g' a' v' with ⟨hs, e0, e1, e2⟩ | ⟨hs, e0⟩ | ⟨hs, e0, e1⟩ | ⟨hs, e0, e1, e2⟩
  case inl =>
    have HS := Lib.hid hs
    have HB0 := Lib.hid hb0
    clear hs
    by_cases hlm : l.length = m.length
    case neg =>
      have hne : ((l.length : Int) != m.length) = true := by simp; omega
      have HF := Lib.hid (show sameL l m = false by unfold sameL; rw [decide_eq_false hlm]; rfl)
      clear hb0 hk1 hk2
      go_enter Try.func17, Try.ntmps17
      go_wp2
      go_ret
      exact ⟨ret_bool (by rw [HSK.out, HF.out, Bool.and_false]), HB0.out⟩
    have hne : ((l.length : Int) != m.length) = false := by simp; omega
    have HLM := Lib.hid hlm
    clear hlm
    go_enter Try.func17, Try.ntmps17
    go_upto_region 1 with fail
    generalize ((w.alloc (.cells #[.string g, .string a, .string v, .slice a1 l.length c1] 26)).alloc (.cells #[.string g', .string a', .string v', .slice a2 m.length c2] 26)) = w1 at hb0 hk1 hk2 HB0 ⊢
    have HK1 := Lib.hid hk1
    have HK2 := Lib.hid hk2
    obtain ⟨x0, x1, x2, x3⟩ := hk1
    obtain ⟨y0, y1, y2, y3⟩ := hk2
    clear hb0
    go_wp2_with fail
    clear x0 x1 x2 x3 y0 y1 y2 y3
    go_loopw [23] (fun i wr => ∃ k : Nat, k ≤ l.length ∧ i = .int .i64 k ∧ (∀ j, j < k → sameAt l m j = true) ∧ Below w1.heap.size w1 wr) (fun i _ => l.length - (intOf i).toNat)
    case atStart => exact ⟨0, by omega, rfl, fun j hj => by omega, Below.refl _ _⟩
    case round =>
      obtain ⟨k, hk, rfl, hall, hb⟩ := hrel
      have HALL := Lib.hid hall
      have HB := Lib.hid hb
      have hbw := HB0.out.trans (hb.mono HB0.out.size)
      have HBW := Lib.hid hbw
      clear hall
      by_cases hlt : k < l.length
      · obtain ⟨p, hp⟩ : ∃ p, l[k]? = some p := ⟨_, List.getElem?_eq_getElem hlt⟩
        have hltm : k < m.length := by have := HLM.out; omega
        obtain ⟨q, hq⟩ : ∃ q, m[k]? = some q := ⟨_, List.getElem?_eq_getElem hltm⟩
        obtain ⟨b1, rfl, _, _, _, hc1⟩ := HR1.out.elem hp
        obtain ⟨b2, rfl, _, _, _, hc2⟩ := HR2.out.elem hq
        obtain ⟨k0, k1, k2, k3, k4, k5⟩ := RdN.at hc1 hp hbw (Nat.le_refl _)
        obtain ⟨m0, m1, m2, m3, m4, m5⟩ := RdN.at hc2 hq hbw (Nat.le_refl _)
        obtain ⟨x0, x1, x2, x3⟩ := HK1.out.below hb (Nat.le_refl _)
        obtain ⟨y0, y1, y2, y3⟩ := HK2.out.below hb (Nat.le_refl _)
        have HSA := Lib.hid (sameAt_is hp hq)
        have hltI : (k : Int) < l.length := by omega
        have hltM : (k : Int) < m.length := by omega
        have hk0 : (0 : Int) ≤ k := by omega
        clear hc1 hc2 hp hq hb hbw
        rcases sameP_cases p q with ⟨hs, f0, f1, f2, f3, f4, f5⟩ | ⟨hs, f0⟩ | ⟨hs, f0, f1⟩ | ⟨hs, f0, f1, f2⟩ | ⟨hs, f0, f1, f2, f3⟩ | ⟨hs, f0, f1, f2, f3, f4⟩ | ⟨hs, f0, f1, f2, f3, f4, f5⟩
        case inl =>
          have HSP := Lib.hid hs
          clear hs
          go_wp2_with fail
          go_quiet (fail)
          go_wp2
          go_roundw
          case rel =>
            refine ⟨k + 1, by omega, by go_num, fun j hj => ?_, below_drewN HB.out _⟩
            by_cases hjk : j = k
            · subst hjk; rw [HSA.out]; exact HSP.out
            · exact HALL.out j (by omega)
          case measure => simp [intOf]; omega
        all_goals
          have HSP := Lib.hid hs
          clear hs
          go_wp2_with fail
          go_quiet (fail)
          go_wp2
          go_ret
          exact ⟨ret_bool (by rw [HSK.out, sameL_no hlt (by rw [HSA.out]; exact HSP.out), Bool.and_false]), below_drewN HBW.out _⟩
      · have hkl : k = l.length := by omega
        have hlt' : (l.length : Int) ≤ k := by omega
        have HF := Lib.hid (show sameL l m = true from sameL_yes HLM.out (by rw [← hkl]; exact HALL.out))
        clear hkl hb hbw
        go_wp2
        go_ret
        exact ⟨ret_bool (by rw [HSK.out, HS.out, HF.out]; rfl), HBW.out⟩
  all_goals
    have HS := Lib.hid hs
    have HB0 := Lib.hid hb0
    clear hs hb0 hk1 hk2
    go_enter Try.func17, Try.ntmps17
    go_wp2
    go_ret
    exact ⟨ret_bool (by rw [HSK.out, HS.out, Bool.false_and]), HB0.out⟩
end Go.Proofs.Ytoibanffaebllaa
