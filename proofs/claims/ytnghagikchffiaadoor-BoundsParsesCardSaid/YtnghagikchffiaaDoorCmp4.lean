/-
  Layer 4: the contract of compareParts. Own work.
-/
import Derived.Test.YtnghagikchffiaaDoorPart4
namespace Go.Proofs.YtnghagikchffiaaDoor
set_option linter.unusedVariables false
set_option linter.unusedSimpArgs false
open Go.RowKit

set_option maxHeartbeats 4000000 in
set_option maxRecDepth 100000 in
theorem compareParts_any (v u : Value) (a b : List Pt) (ha : a.length ≤ 1000000) (hb : b.length ≤ 1000000) (w : World) (hv : RdP w v a) (hu : RdP w u b) :
    Calls Tryd.prog 70 #[v, u] w fun e w' => e = .returned (.int .i64 (cmpL a b)) ∧ Below w.heap.size w w' := by
  obtain ⟨pa, ca, rfl, hac, hac2, hca⟩ := hv
  obtain ⟨pb, cb, rfl, hbc, hbc2, hcb⟩ := hu
  have HA := Lib.hid hca; clear hca
  have HA2 := Lib.hid hac2; clear hac2
  have HB2 := Lib.hid hbc2; clear hbc2
  have HB := Lib.hid hcb; clear hcb
  obtain ⟨N, hN⟩ : ∃ N, N = max a.length b.length := ⟨_, rfl⟩
  have HR := Lib.hid (cmpL_at (a := a) (b := b) N (by omega) (by omega))
  have hm : max (a.length : Int) (b.length : Int) = (N : Int) := by omega
  have hNs : N ≤ 1000000 := by omega
  have HN := Lib.hid hN; clear hN
  go_enter Tryd.func70, Tryd.ntmps70
  go_wp2
  clear hm
  go_loopw [14] (fun i wr => ∃ k : Nat, k ≤ N ∧ i = .int .i64 k ∧ cmpUp a b k = 0 ∧ Below w.heap.size w wr) (fun i _ => N - (intOf i).toNat)
  case atStart => exact ⟨0, Nat.zero_le _, rfl, rfl, Below.refl _ _⟩
  case round =>
    obtain ⟨k, hk, rfl, hup, hbel⟩ := hrel
    have HUP := Lib.hid hup; clear hup
    have hz := hbel.size
    by_cases hlt : k < N
    · have hor : k < a.length ∨ k < b.length := by have := HN.out; omega
      by_cases ka : k < a.length
      · by_cases kb : k < b.length
        · have _tok := ka
          obtain ⟨p, hpk⟩ : ∃ p, a[k]? = some p := ⟨_, List.getElem?_eq_getElem ka⟩
          have hpa : ptAt a k = p := by unfold ptAt; rw [List.getD_eq_getElem?_getD, hpk]; rfl
          obtain ⟨ba, oa, rfl, hblta, a0, a1, a2⟩ := HA.out k p hpk
          have a0 := (hbel.cell (p := ⟨ba, oa + k * 3, none⟩) hblta).trans a0
          have a1 := (hbel.cell (p := ⟨ba, oa + k * 3 + 1, none⟩) hblta).trans a1
          have a2 := (hbel.cell (p := ⟨ba, oa + k * 3 + 2, none⟩) hblta).trans a2
          have hba : ba < wr.heap.size := by omega
          have ka2 : (k : Int) < a.length := by omega
          clear hpk
          obtain ⟨q, hqk⟩ : ∃ p, b[k]? = some p := ⟨_, List.getElem?_eq_getElem kb⟩
          have hqa : ptAt b k = q := by unfold ptAt; rw [List.getD_eq_getElem?_getD, hqk]; rfl
          obtain ⟨bb, ob, rfl, hbltb, b0, b1, b2⟩ := HB.out k q hqk
          have b0 := (hbel.cell (p := ⟨bb, ob + k * 3, none⟩) hbltb).trans b0
          have b1 := (hbel.cell (p := ⟨bb, ob + k * 3 + 1, none⟩) hbltb).trans b1
          have b2 := (hbel.cell (p := ⟨bb, ob + k * 3 + 2, none⟩) hbltb).trans b2
          have hbb : bb < wr.heap.size := by omega
          have kb2 : (k : Int) < b.length := by omega
          clear hqk
          have hp := fun w => comparePart_any (ptAt a k) (ptAt b k) w
          have HC := Lib.hid (show cmpPt (ptAt a k) (ptAt b k) = cmpPt p q by rw [hpa, hqa])
          rw [hpa, hqa] at hp
          unfold ptV at hp
          have HP := Lib.hid hp; clear hp hpa hqa
          go_wp2_with fail
          refine (HP.out _).mono ?_
          rintro e w1 ⟨rfl, hb1⟩
          have hbw : Below w.heap.size w w1 := (((hbel.trans ((Below.refl _ wr).mono hz)).alloc (by omega) _).alloc (by simp; omega) _).trans (hb1.mono (by simp; omega))
          clear hb1
          go_wp2
          · go_ret
            have hne : cmpPt p q ≠ 0 := by simpa using ‹(cmpPt p q != 0) = true›
            refine ⟨ret_int ?_, hbw⟩
            rw [HR.out, cmpUp_hit HUP.out (by rw [HC.out]; exact hne) hlt, HC.out]
          · have hne : cmpPt p q = 0 := by simpa using ‹(cmpPt p q != 0) = false›
            exact ⟨⟨k + 1, by omega, by go_num, cmpUp_on HUP.out (by rw [HC.out]; exact hne), hbw⟩, by simp [intOf]; omega⟩
        · have _tok := ka
          obtain ⟨p, hpk⟩ : ∃ p, a[k]? = some p := ⟨_, List.getElem?_eq_getElem ka⟩
          have hpa : ptAt a k = p := by unfold ptAt; rw [List.getD_eq_getElem?_getD, hpk]; rfl
          obtain ⟨ba, oa, rfl, hblta, a0, a1, a2⟩ := HA.out k p hpk
          have a0 := (hbel.cell (p := ⟨ba, oa + k * 3, none⟩) hblta).trans a0
          have a1 := (hbel.cell (p := ⟨ba, oa + k * 3 + 1, none⟩) hblta).trans a1
          have a2 := (hbel.cell (p := ⟨ba, oa + k * 3 + 2, none⟩) hblta).trans a2
          have hba : ba < wr.heap.size := by omega
          have ka2 : (k : Int) < a.length := by omega
          clear hpk
          have hqa : ptAt b k = Pt0 := ptAt_over (by omega)
          have kb2 : (b.length : Int) ≤ k := by omega
          have hp := fun w => comparePart_any (ptAt a k) (ptAt b k) w
          have HC := Lib.hid (show cmpPt (ptAt a k) (ptAt b k) = cmpPt p Pt0 by rw [hpa, hqa])
          rw [hpa, hqa] at hp
          unfold ptV at hp
          have HP := Lib.hid hp; clear hp hpa hqa
          go_wp2_with fail
          refine (HP.out _).mono ?_
          rintro e w1 ⟨rfl, hb1⟩
          have hbw : Below w.heap.size w w1 := (((hbel.trans ((Below.refl _ wr).mono hz)).alloc (by omega) _).alloc (by simp; omega) _).trans (hb1.mono (by simp; omega))
          clear hb1
          go_wp2
          · go_ret
            have hne : cmpPt p Pt0 ≠ 0 := by simpa using ‹(cmpPt p Pt0 != 0) = true›
            refine ⟨ret_int ?_, hbw⟩
            rw [HR.out, cmpUp_hit HUP.out (by rw [HC.out]; exact hne) hlt, HC.out]
          · have hne : cmpPt p Pt0 = 0 := by simpa using ‹(cmpPt p Pt0 != 0) = false›
            exact ⟨⟨k + 1, by omega, by go_num, cmpUp_on HUP.out (by rw [HC.out]; exact hne), hbw⟩, by simp [intOf]; omega⟩
      · have kb : k < b.length := by omega
        have hpa : ptAt a k = Pt0 := ptAt_over (by omega)
        have ka2 : (a.length : Int) ≤ k := by omega
        obtain ⟨q, hqk⟩ : ∃ p, b[k]? = some p := ⟨_, List.getElem?_eq_getElem kb⟩
        have hqa : ptAt b k = q := by unfold ptAt; rw [List.getD_eq_getElem?_getD, hqk]; rfl
        obtain ⟨bb, ob, rfl, hbltb, b0, b1, b2⟩ := HB.out k q hqk
        have b0 := (hbel.cell (p := ⟨bb, ob + k * 3, none⟩) hbltb).trans b0
        have b1 := (hbel.cell (p := ⟨bb, ob + k * 3 + 1, none⟩) hbltb).trans b1
        have b2 := (hbel.cell (p := ⟨bb, ob + k * 3 + 2, none⟩) hbltb).trans b2
        have hbb : bb < wr.heap.size := by omega
        have kb2 : (k : Int) < b.length := by omega
        clear hqk
        have hp := fun w => comparePart_any (ptAt a k) (ptAt b k) w
        have HC := Lib.hid (show cmpPt (ptAt a k) (ptAt b k) = cmpPt Pt0 q by rw [hpa, hqa])
        rw [hpa, hqa] at hp
        unfold ptV at hp
        have HP := Lib.hid hp; clear hp hpa hqa
        go_wp2_with fail
        refine (HP.out _).mono ?_
        rintro e w1 ⟨rfl, hb1⟩
        have hbw : Below w.heap.size w w1 := (((hbel.trans ((Below.refl _ wr).mono hz)).alloc (by omega) _).alloc (by simp; omega) _).trans (hb1.mono (by simp; omega))
        clear hb1
        go_wp2
        · go_ret
          have hne : cmpPt Pt0 q ≠ 0 := by simpa using ‹(cmpPt Pt0 q != 0) = true›
          refine ⟨ret_int ?_, hbw⟩
          rw [HR.out, cmpUp_hit HUP.out (by rw [HC.out]; exact hne) hlt, HC.out]
        · have hne : cmpPt Pt0 q = 0 := by simpa using ‹(cmpPt Pt0 q != 0) = false›
          exact ⟨⟨k + 1, by omega, by go_num, cmpUp_on HUP.out (by rw [HC.out]; exact hne), hbw⟩, by simp [intOf]; omega⟩
    · have hkN : k = N := by omega
      have HK := Lib.hid hkN; clear hkN
      go_wp2
      go_ret
      refine ⟨ret_int ?_, hbel⟩
      rw [HR.out, ← HK.out, HUP.out]
end Go.Proofs.YtnghagikchffiaaDoor
