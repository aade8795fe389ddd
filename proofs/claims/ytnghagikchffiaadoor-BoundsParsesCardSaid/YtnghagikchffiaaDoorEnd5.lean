/-
  Layer 5: the contracts of the small functions over ends: some, mayEnd, apart; of Has. Own work.
-/
import Derived.Test.YtnghagikchffiaaDoorRng5
import Derived.Test.YtnghagikchffiaaDoorVer4
import Derived.Deep.RegionHeld3
namespace Go.Proofs.YtnghagikchffiaaDoor
set_option linter.unusedVariables false
set_option linter.unusedSimpArgs false
open Go.RowKit

def cE (e f : En) : Int := cmpB e.ver.data.toList f.ver.data.toList
theorem cE_rng (e f : En) : cE e f = -1 ∨ cE e f = 0 ∨ cE e f = 1 := cmpB_ord.rng _ _
def someB (e f : En) : Bool := decide (cE e f < 0) || (decide (cE e f = 0) && (e.cl && f.cl))
def smallE (e : En) : Prop := e.ver.size ≤ 100000
set_option maxHeartbeats 1000000 in
theorem some_at5 (e f : En) (he : smallE e) (hf : smallE f) (w : World) :
    Calls Tryd.prog 40 #[enV e, enV f] w fun r w' => r = .returned (.bool (someB e f)) ∧ Below w.heap.size w w' := by
  have hc := fun w => Compare_any e.ver f.ver he hf w
  have HC := Lib.hid hc; clear hc
  have hr := cE_rng e f
  have hsb : someB e f = (decide (cE e f < 0) || (decide (cE e f = 0) && (e.cl && f.cl))) := rfl
  unfold cE at hr hsb
  generalize cmpB e.ver.data.toList f.ver.data.toList = c at HC hr hsb
  have HSB := Lib.hid hsb; clear hsb
  unfold enV
  obtain ⟨eh, ev, ec⟩ := e
  obtain ⟨fh, fv, fc⟩ := f
  go_enter Tryd.func40, Tryd.ntmps40
  go_wp2_with fail
  refine (HC.out _).mono ?_
  rintro r w2 ⟨rfl, hb2⟩
  have k1 : w2.cell? ⟨w.heap.size, 2, none⟩ = some (.bool ec) := (hb2.cell (p := ⟨w.heap.size, 2, none⟩) (by simp <;> omega)).trans (by simp [go_sem])
  have k2 : w2.cell? ⟨w.heap.size + 1, 2, none⟩ = some (.bool fc) := (hb2.cell (p := ⟨w.heap.size + 1, 2, none⟩) (by simp <;> omega)).trans (by simp [go_sem])
  have HB := Lib.hid ((((Below.refl w.heap.size w).alloc (Nat.le_refl _) _).alloc (by simp) _).trans (hb2.mono (by simp <;> omega)))
  clear hb2
  rcases hr with rfl | rfl | rfl
  · go_wp2
    go_ret
    exact ⟨ret_bool (by rw [HSB.out]; rfl), HB.out⟩
  · cases ec <;> cases fc
    all_goals
      go_wp2
      go_ret
      exact ⟨ret_bool (by rw [HSB.out]; rfl), HB.out⟩
  · go_wp2
    go_ret
    exact ⟨ret_bool (by rw [HSB.out]; rfl), HB.out⟩
/-- an end of one interval, the front of the next one: may they follow? -/
def apartB (e f : En) : Bool := e.has && f.has && (decide (cE e f < 0) || (decide (cE e f = 0) && !(e.cl && f.cl)))
set_option maxHeartbeats 1000000 in
theorem apart_at (e f : En) (he : smallE e) (hf : smallE f) (w : World) :
    Calls Tryd.prog 45 #[enV e, enV f] w fun r w' => r = .returned (.bool (apartB e f)) ∧ Below w.heap.size w w' := by
  have hc := fun w => Compare_any e.ver f.ver he hf w
  have HC := Lib.hid hc; clear hc
  have hr := cE_rng e f
  have hsb : apartB e f = (e.has && f.has && (decide (cE e f < 0) || (decide (cE e f = 0) && !(e.cl && f.cl)))) := rfl
  unfold cE at hr hsb
  generalize cmpB e.ver.data.toList f.ver.data.toList = c at HC hr hsb
  have HSB := Lib.hid hsb; clear hsb
  unfold enV
  obtain ⟨eh, ev, ec⟩ := e
  obtain ⟨fh, fv, fc⟩ := f
  have hb0 : Below w.heap.size w ((w.alloc (.cells #[.bool eh, .string ev, .bool ec] 58)).alloc (.cells #[.bool fh, .string fv, .bool fc] 58)) := ((Below.refl w.heap.size w).alloc (Nat.le_refl _) _).alloc (by simp) _
  have HB0 := Lib.hid hb0; clear hb0
  cases eh
  · go_enter Tryd.func45, Tryd.ntmps45
    go_wp2
    go_ret
    exact ⟨ret_bool (by rw [HSB.out]; rfl), HB0.out⟩
  cases fh
  · go_enter Tryd.func45, Tryd.ntmps45
    go_wp2
    go_ret
    exact ⟨ret_bool (by rw [HSB.out]; rfl), HB0.out⟩
  go_enter Tryd.func45, Tryd.ntmps45
  go_wp2_with fail
  refine (HC.out _).mono ?_
  rintro r w2 ⟨rfl, hb2⟩
  have k1 : w2.cell? ⟨w.heap.size, 2, none⟩ = some (.bool ec) := (hb2.cell (p := ⟨w.heap.size, 2, none⟩) (by simp <;> omega)).trans (by simp [go_sem])
  have k2 : w2.cell? ⟨w.heap.size + 1, 2, none⟩ = some (.bool fc) := (hb2.cell (p := ⟨w.heap.size + 1, 2, none⟩) (by simp <;> omega)).trans (by simp [go_sem])
  have HB := Lib.hid (HB0.out.trans (hb2.mono (by simp <;> omega)))
  clear hb2
  rcases hr with rfl | rfl | rfl
  · go_wp2
    go_ret
    exact ⟨ret_bool (by rw [HSB.out]; rfl), HB.out⟩
  · cases ec <;> cases fc
    all_goals
      go_wp2
      go_ret
      exact ⟨ret_bool (by rw [HSB.out]; rfl), HB.out⟩
  · go_wp2
    go_ret
    exact ⟨ret_bool (by rw [HSB.out]; rfl), HB.out⟩
def atE (v : ByteArray) : En := ⟨true, v, true⟩
def inB (p : Iv) (v : ByteArray) : Bool := (!p.lo.has || someB p.lo (atE v)) && (!p.hi.has || someB (atE v) p.hi)
def smallI (p : Iv) : Prop := smallE p.lo ∧ smallE p.hi
/-- the variable that holds what is asked for -/
def AtAt (w : World) (A : Nat) (v : ByteArray) : Prop := w.cell? ⟨A, 0, none⟩ = some (.bool true) ∧ w.cell? ⟨A, 1, none⟩ = some (.string v) ∧ w.cell? ⟨A, 2, none⟩ = some (.bool true) ∧ A < w.heap.size
theorem AtAt.below {w w' : World} {A B : Nat} {v : ByteArray} (h : AtAt w A v) (hb : Below B w w') (hB : w.heap.size ≤ B) : AtAt w' A v := by
  obtain ⟨h0, h1, h2, h3⟩ := h
  exact ⟨(hb.cell (p := ⟨A, 0, none⟩) (Nat.lt_of_lt_of_le h3 hB)).trans h0, (hb.cell (p := ⟨A, 1, none⟩) (Nat.lt_of_lt_of_le h3 hB)).trans h1, (hb.cell (p := ⟨A, 2, none⟩) (Nat.lt_of_lt_of_le h3 hB)).trans h2, Nat.lt_of_lt_of_le h3 hb.size⟩
set_option maxHeartbeats 1000000 in
theorem in_at (p : Iv) (v : ByteArray) (hp : smallI p) (hv : v.size ≤ 100000) (A : Nat) (w : World) (hA : AtAt w A v) :
    Calls Tryd.prog 39 #[ivV p, .pointer (some ⟨A, 0, none⟩)] w fun r w' => r = .returned (.bool (inB p v)) ∧ Below w.heap.size w w' := by
  have c1 := fun w => some_at5 p.lo (atE v) hp.1 hv w
  have c2 := fun w => some_at5 (atE v) p.hi hv hp.2 w
  have hin : inB p v = ((!p.lo.has || someB p.lo (atE v)) && (!p.hi.has || someB (atE v) p.hi)) := rfl
  generalize someB p.lo (atE v) = b1 at c1 hin
  generalize someB (atE v) p.hi = b2 at c2 hin
  obtain ⟨⟨lh, lv, lc⟩, ⟨hh, hv2, hc⟩⟩ := p
  unfold atE enV at c1 c2
  have C1 := Lib.hid c1
  have C2 := Lib.hid c2
  have HIN := Lib.hid hin
  clear c1 c2 hin
  unfold ivV
  have hb0 : Below w.heap.size w (w.alloc (.cells #[.bool lh, .string lv, .bool lc, .bool hh, .string hv2, .bool hc] 61)) := (Below.refl w.heap.size w).alloc (Nat.le_refl _) _
  have HB0 := Lib.hid hb0
  have HA := Lib.hid hA
  have hA1 := hA.below hb0 (Nat.le_refl _)
  obtain ⟨a0, a1, a2, a3⟩ := hA1
  clear hA hb0
  cases lh
  · cases hh
    · go_enter Tryd.func39, Tryd.ntmps39
      go_wp2
      go_ret
      exact ⟨ret_bool (by rw [HIN.out]; rfl), HB0.out⟩
    · go_enter Tryd.func39, Tryd.ntmps39
      go_wp2_with fail
      refine (C2.out _).mono ?_
      rintro r w2 ⟨rfl, hb2⟩
      have HB := Lib.hid (HB0.out.trans (hb2.mono (by simp)))
      clear hb2
      go_wp2
      go_ret
      exact ⟨ret_bool (by rw [HIN.out]; simp), HB.out⟩
  · go_enter Tryd.func39, Tryd.ntmps39
    go_wp2_with fail
    refine (C1.out _).mono ?_
    rintro r w2 ⟨rfl, hb2⟩
    have HB := Lib.hid (HB0.out.trans (hb2.mono (by simp)))
    cases b1
    · clear hb2
      go_wp2
      go_ret
      exact ⟨ret_bool (by rw [HIN.out]; simp), HB.out⟩
    have k3 : w2.cell? ⟨w.heap.size, 3, none⟩ = some (.bool hh) := (hb2.cell (p := ⟨w.heap.size, 3, none⟩) (by simp)).trans (by simp [go_sem])
    have k4 : w2.cell? ⟨w.heap.size, 4, none⟩ = some (.string hv2) := (hb2.cell (p := ⟨w.heap.size, 4, none⟩) (by simp)).trans (by simp [go_sem])
    have k5 : w2.cell? ⟨w.heap.size, 5, none⟩ = some (.bool hc) := (hb2.cell (p := ⟨w.heap.size, 5, none⟩) (by simp)).trans (by simp [go_sem])
    clear a0 a1 a2 a3
    obtain ⟨a0, a1, a2, a3⟩ := HA.out.below HB.out (Nat.le_refl _)
    clear hb2
    cases hh
    · go_wp2
      go_ret
      exact ⟨ret_bool (by rw [HIN.out]; simp), HB.out⟩
    · go_wp2_with fail
      refine (C2.out _).mono ?_
      rintro r w3 ⟨rfl, hb3⟩
      have HB3 := Lib.hid (HB.out.trans (hb3.mono HB.out.size))
      clear hb3
      go_wp2
      go_ret
      exact ⟨ret_bool (by rw [HIN.out]; simp), HB3.out⟩
/-- the first interval that has it -/
theorem any_snoc {l : List Iv} {k : Nat} {p : Iv} {f : Iv → Bool} (h : l[k]? = some p) (h0 : (l.take k).any f = false) (h1 : f p = false) : (l.take (k + 1)).any f = false := by
  rw [take_snoc _ k p h, List.any_append, h0]
  simp [h1]
theorem any_hit {l : List Iv} {k : Nat} {p : Iv} {f : Iv → Bool} (h : l[k]? = some p) (h1 : f p = true) : l.any f = true := List.any_eq_true.2 ⟨p, List.mem_of_getElem? h, h1⟩
def IdxP (l : List Iv) (v : ByteArray) (w : World) (r : Ending) (w' : World) : Prop := ∃ n : Int, r = .returned (.int .i64 n) ∧ decide (0 ≤ n) = l.any (fun p => inB p v) ∧ Below w.heap.size w w'
set_option maxHeartbeats 1000000 in
theorem Index_any (pv : Value) (l : List Iv) (v : ByteArray) (hl : ∀ p ∈ l, smallI p) (hv : v.size ≤ 100000) (A : Nat) (w : World) (hr : RdI w pv l) (hA : AtAt w A v) :
    Calls Tryd.prog 58 #[pv, .func (.func 39) #[] #[.pointer (some ⟨A, 0, none⟩)]] w (IdxP l v w) := by
  rcases hr with ⟨rfl, rfl⟩ | ⟨a, cap, rfl, h1, h2, hc⟩
  · go_enter Tryd.func58, Tryd.ntmps58
    go_wp2_with fail
    go_loop [8] (fun i => i = .int .i64 0) (fun _ => 0)
    case atStart => rfl
    case round =>
      obtain rfl := hrel
      go_wp2
      go_ret
      exact ⟨-1, rfl, rfl, Below.refl _ _⟩
  have HC := Lib.hid hc; clear hc
  have HA := Lib.hid hA; clear hA
  have hlb : (l.length : Int) ≤ 9223372036854775807 := by omega
  go_enter Tryd.func58, Tryd.ntmps58
  go_wp2_with fail
  go_loopw [8] (fun i wr => ∃ k : Nat, k ≤ l.length ∧ i = .int .i64 k ∧ (l.take k).any (fun p => inB p v) = false ∧ Below w.heap.size w wr) (fun i _ => l.length - (intOf i).toNat)
  case atStart => exact ⟨0, by omega, rfl, by simp, Below.refl _ _⟩
  case round =>
    obtain ⟨k, hk, rfl, hno, hb⟩ := hrel
    have HNO := Lib.hid hno
    have HB := Lib.hid hb
    clear hno
    by_cases hlt : k < l.length
    · obtain ⟨p, hp⟩ : ∃ p, l[k]? = some p := ⟨_, List.getElem?_eq_getElem hlt⟩
      obtain ⟨k0, k1, k2, k3, k4, k5⟩ := RdI.at HC.out hp hb (Nat.le_refl _)
      have hcall := in_at p v (hl p (List.mem_of_getElem? hp)) hv A wr (HA.out.below hb (Nat.le_refl _))
      have HCALL := Lib.hid hcall
      have HP := Lib.hid hp
      have hlt' : (k : Int) < l.length := by omega
      clear hcall hp hb
      have HLN := Lib.hid (rfl : l = l)
      generalize hib : inB p v = ib at HCALL
      have HIB := Lib.hid hib; clear hib
      go_wp2_with fail
      refine HCALL.out.mono ?_
      rintro r w2 ⟨rfl, hb2⟩
      have HB2 := Lib.hid (HB.out.trans (hb2.mono HB.out.size))
      clear hb2 k0 k1 k2 k3 k4 k5
      cases ib
      · go_wp2
        go_roundw
        case rel => exact ⟨k + 1, by omega, by go_num, any_snoc HP.out HNO.out HIB.out, HB2.out⟩
        case measure => simp [intOf]; omega
      · go_wp2
        go_ret
        exact ⟨k, rfl, (decide_eq_true (by omega)).trans (any_hit HP.out HIB.out).symm, HB2.out⟩
    · have hkl : k = l.length := by omega
      have hlt' : (l.length : Int) ≤ k := by omega
      have hf : l.any (fun p => inB p v) = false := by have := HNO.out; rw [hkl, List.take_length] at this; exact this
      have HF := Lib.hid hf
      clear hf hkl hb
      go_wp2
      go_ret
      exact ⟨-1, rfl, HF.out.symm, HB.out⟩
set_option maxHeartbeats 1000000 in
theorem Contains_any (pv : Value) (l : List Iv) (v : ByteArray) (hl : ∀ p ∈ l, smallI p) (hv : v.size ≤ 100000) (A : Nat) (w : World) (hr : RdI w pv l) (hA : AtAt w A v) :
    Calls Tryd.prog 38 #[pv, .func (.func 39) #[] #[.pointer (some ⟨A, 0, none⟩)]] w fun r w' => r = .returned (.bool (l.any fun p => inB p v)) ∧ Below w.heap.size w w' := by
  have hcall := Index_any pv l v hl hv A w hr hA
  have HCALL := Lib.hid hcall
  clear hcall hr hA hl
  go_enter Tryd.func38, Tryd.ntmps38
  go_wp2_with fail
  refine HCALL.out.mono ?_
  rintro r w2 ⟨n, rfl, hn, hb⟩
  have HN := Lib.hid hn
  clear hn
  go_wp2
  go_ret
  exact ⟨ret_bool HN.out, hb⟩
set_option maxHeartbeats 1000000 in
theorem Has_any (hard : Bool) (ver : ByteArray) (pv : Value) (l : List Iv) (v : ByteArray) (hl : ∀ p ∈ l, smallI p) (hv : v.size ≤ 100000) (w : World) (hr : RdI w pv l) :
    Calls Tryd.prog 17 #[.agg #[.bool hard, .string ver, pv], .string v] w fun r w' => r = .returned (.bool (!hard || l.any fun p => inB p v)) ∧ Below w.heap.size w w' := by
  obtain ⟨pa, pc, rfl⟩ : ∃ a c, pv = .slice a l.length c := by
    rcases hr with ⟨rfl, rfl⟩ | ⟨a, cap, rfl, _⟩
    · exact ⟨_, _, rfl⟩
    · exact ⟨_, _, rfl⟩
  have HR := Lib.hid hr; clear hr
  cases hard
  · go_enter Tryd.func17, Tryd.ntmps17
    go_wp2
    go_ret
    exact ⟨rfl, (Below.refl w.heap.size w).alloc (Nat.le_refl _) _⟩
  · go_enter Tryd.func17, Tryd.ntmps17
    go_wp2_with fail
    generalize hw1 : ((w.alloc (.cells #[.bool true, .string ver, .slice pa l.length pc] 25)).alloc (.cells #[.bool true, .string v, .bool true] 58)) = w1
    have hb1 : Below w.heap.size w w1 := by rw [← hw1]; exact ((Below.refl w.heap.size w).alloc (Nat.le_refl _) _).alloc (by simp) _
    have hA : AtAt w1 (w.heap.size + 1) v := by
      rw [← hw1]
      refine ⟨by simp [go_sem], by simp [go_sem], by simp [go_sem], by simp⟩
    have hcall := Contains_any _ l v hl hv (w.heap.size + 1) w1 (HR.out.below hb1 (Nat.le_refl _)) hA
    clear hw1
    have HB := Lib.hid hb1
    refine hcall.mono ?_
    rintro r w2 ⟨rfl, hb2⟩
    have HB2 := Lib.hid (HB.out.trans (hb2.mono HB.out.size))
    clear hb2 hb1 hA hcall
    go_wp2
    go_ret
    exact ⟨ret_bool (by simp), HB2.out⟩
end Go.Proofs.YtnghagikchffiaaDoor
