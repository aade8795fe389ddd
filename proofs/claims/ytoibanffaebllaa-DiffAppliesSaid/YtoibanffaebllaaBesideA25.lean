/-
  Layer 25: diff.beside once more, for the closures of Apply. Own work.
-/
import Derived.Test.YtoibanffaebllaaBeside25
namespace Go.Proofs.Ytoibanffaebllaa
set_option linter.unusedVariables false
set_option linter.unusedSimpArgs false
open Go.RowKit

set_option maxRecDepth 100000 in
set_option maxHeartbeats 2000000 in
theorem lesserA_any (n m i k : Nat) (hn : n ≤ 1000000) (hm : m ≤ 1000000) (hi : i ≤ n) (hk : k ≤ m) (p1 p2 : Value) (x y : K4) (Bi Bn Bk Bm B1 B2 : Nat) (w : World)
    (ci : w.cell? ⟨Bi, 0, none⟩ = some (.int .i64 i)) (cn : w.cell? ⟨Bn, 0, none⟩ = some (.int .i64 n)) (ck : w.cell? ⟨Bk, 0, none⟩ = some (.int .i64 k)) (cm : w.cell? ⟨Bm, 0, none⟩ = some (.int .i64 m))
    (c1 : w.cell? ⟨B1, 0, none⟩ = some (.func (.func 33) #[] #[p1])) (c2 : w.cell? ⟨B2, 0, none⟩ = some (.func (.func 34) #[] #[p2]))
    (h1 : i < n → ∀ w', Below w.heap.size w w' → Calls Try.prog 33 #[.int .i64 i, p1] w' fun e w2 => e = .returned x.val ∧ Below w'.heap.size w' w2)
    (h2 : k < m → ∀ w', Below w.heap.size w w' → Calls Try.prog 34 #[.int .i64 k, p2] w' fun e w2 => e = .returned y.val ∧ Below w'.heap.size w' w2) :
    Calls Try.prog 47 #[.pointer (some ⟨Bi, 0, none⟩), .pointer (some ⟨Bn, 0, none⟩), .pointer (some ⟨Bk, 0, none⟩), .pointer (some ⟨Bm, 0, none⟩), .pointer (some ⟨B1, 0, none⟩), .pointer (some ⟨B2, 0, none⟩)] w fun e w' =>
      e = .returned (.int .i64 (lesI n m i k x y)) ∧ Below w.heap.size w w' := by
  have H1 := Lib.hid h1
  have H2 := Lib.hid h2
  clear h1 h2
  by_cases hin : i = n
  · have HR := Lib.hid (show lesI n m i k x y = 1 by unfold lesI; rw [if_pos hin])
    have e1 : ((i : Int) == n) = true := by simp [hin]
    clear hin
    go_enter Try.func47, Try.ntmps47
    go_wp2
    go_ret
    exact ⟨ret_int HR.out.symm, Below.refl _ _⟩
  have e1 : ((i : Int) == n) = false := by simp; omega
  have hlt : i < n := by omega
  by_cases hkm : k = m
  · have HR := Lib.hid (show lesI n m i k x y = -1 by unfold lesI; rw [if_neg hin, if_pos hkm])
    have e2 : ((k : Int) == m) = true := by simp [hkm]
    clear hin hkm
    go_enter Try.func47, Try.ntmps47
    go_wp2
    go_ret
    exact ⟨ret_int HR.out.symm, Below.refl _ _⟩
  have e2 : ((k : Int) == m) = false := by simp; omega
  have hlk : k < m := by omega
  have HR := Lib.hid (show lesI n m i k x y = kcmp x y by unfold lesI; rw [if_neg hin, if_neg hkm])
  have H1 := Lib.hid (H1.out hlt)
  have H2 := Lib.hid (H2.out hlk)
  have HC := Lib.hid (fun w => Compare6_any x y w)
  have hb0 := Below.refl w.heap.size w
  clear hin hkm
  go_enter Try.func47, Try.ntmps47
  go_wp2_with fail
  go_region_held3 (fun w' => w'.cell? ⟨Bi, 0, none⟩ = some (.int .i64 i) ∧ w'.cell? ⟨Bk, 0, none⟩ = some (.int .i64 k) ∧ w'.cell? ⟨B1, 0, none⟩ = some (.func (.func 33) #[] #[p1]) ∧ w'.cell? ⟨B2, 0, none⟩ = some (.func (.func 34) #[] #[p2]) ∧ Below w.heap.size w w')
    (first | with_reducible exact lesDrew ⟨ci, ck, c1, c2, hb0⟩ | with_reducible exact lesKeep (by assumption) (by assumption))
    (first
      | (go_at_call 33; (with_reducible refine (H1.out _ (lesBelow (by assumption))).mono ?_); rintro e wx ⟨rfl, hbx⟩)
      | (go_at_call 34; (with_reducible refine (H2.out _ (lesBelow (by assumption))).mono ?_); rintro e wx ⟨rfl, hbx⟩)
      | (go_at_call 31; (with_reducible refine (HC.out _).mono ?_); rintro e wy ⟨rfl, hby⟩))
  rename_i hS
  have HFIN := Lib.hid (lesBelow hS)
  clear hS
  go_wp2
  go_ret
  exact ⟨ret_int HR.out.symm, HFIN.out⟩
set_option maxRecDepth 100000 in
set_option maxHeartbeats 4000000 in
theorem besideA_any (n m : Nat) (hn : n ≤ 1000000) (hm : m ≤ 1000000) (ka kb : Nat → K4) (p1 p2 q0 q1 q2 q3 : Value) (B : Nat) (Inv : Nat → Nat → Option Nat → World → Prop)
    (stab : ∀ i k r w w', Inv i k r w → Frm B r w w' → Inv i k r w')
    (hF : ∀ (i k : Nat) r w, i < n → Inv i k r w → Calls Try.prog 33 #[.int .i64 i, p1] w fun e w2 => e = .returned (ka i).val ∧ Below w.heap.size w w2)
    (hS : ∀ (i k : Nat) r w, k < m → Inv i k r w → Calls Try.prog 34 #[.int .i64 k, p2] w fun e w2 => e = .returned (kb k).val ∧ Below w.heap.size w w2)
    (hL : ∀ (i k : Nat) r w, i < n → k ≤ m → (k < m → kcmp (ka i) (kb k) < 0) → Inv i k r w → Calls Try.prog 35 #[.int .i64 i, .int .i64 (-1), q0, q1, q2, q3] w fun e w2 => e = .returned (.tuple #[]) ∧ ∃ r', Inv (i + 1) k r' w2 ∧ Stp B r w r' w2)
    (hR : ∀ (i k : Nat) r w, i ≤ n → k < m → (i < n → 0 < kcmp (ka i) (kb k)) → Inv i k r w → Calls Try.prog 35 #[.int .i64 (-1), .int .i64 k, q0, q1, q2, q3] w fun e w2 => e = .returned (.tuple #[]) ∧ ∃ r', Inv i (k + 1) r' w2 ∧ Stp B r w r' w2)
    (hM : ∀ (i k : Nat) r w, i < n → k < m → kcmp (ka i) (kb k) = 0 → Inv i k r w → Calls Try.prog 35 #[.int .i64 i, .int .i64 k, q0, q1, q2, q3] w fun e w2 => e = .returned (.tuple #[]) ∧ ∃ r', Inv (i + 1) (k + 1) r' w2 ∧ Stp B r w r' w2)
    (r0 : Option Nat) (w : World) (hB : B ≤ w.heap.size) (hr0 : ∀ x, r0 = some x → x < w.heap.size) (h0 : Inv 0 0 r0 w) :
    Calls Try.prog 27 #[.int .i64 n, .int .i64 m, .func (.func 33) #[] #[p1], .func (.func 34) #[] #[p2], .func (.func 35) #[] #[q0, q1, q2, q3]] w (BesP Inv n m) := by
  have hI0 : Inv 0 0 r0 ((((((w.alloc (.cells #[.int .i64 n] 3)).alloc (.cells #[.int .i64 m] 3)).alloc (.cells #[.func (.func 33) #[] #[p1]] 55)).alloc (.cells #[.func (.func 34) #[] #[p2]] 55)).alloc (.cells #[.int .i64 0] 3)).alloc (.cells #[.int .i64 0] 3)) :=
    stab _ _ _ _ _ h0 (.of_below ((((((((Below.refl w.heap.size w).alloc (Nat.le_refl _) _).alloc (by simp) _).alloc (by simp; omega) _).alloc (by simp; omega) _).alloc (by simp; omega) _).alloc (by simp; omega) _)))
  have HI0 := Lib.hid hI0
  have HB0 := Lib.hid (BS.new hB hr0 n m (.func (.func 33) #[] #[p1]) (.func (.func 34) #[] #[p2]))
  have HST := Lib.hid stab
  have HF := Lib.hid hF
  have HS := Lib.hid hS
  have HL := Lib.hid hL
  have HR := Lib.hid hR
  have HM := Lib.hid hM
  clear stab hF hS hL hR hM h0 hr0 hI0 hB
  go_enter Try.func27, Try.ntmps27
  go_wp2
  go_loopw [13] (fun _ wr => ∃ (i k : Nat) (r : Option Nat), i ≤ n ∧ k ≤ m ∧ Inv i k r wr ∧ BS w.heap.size B n m (.func (.func 33) #[] #[p1]) (.func (.func 34) #[] #[p2]) i k r wr)
    (fun _ wr => (n - (match wr.cell? ⟨w.heap.size + 1 + 1 + 1 + 1, 0, none⟩ with | some v => (intOf v).toNat | none => 0)) + (m - (match wr.cell? ⟨w.heap.size + 1 + 1 + 1 + 1 + 1, 0, none⟩ with | some v => (intOf v).toNat | none => 0)))
  case atStart => exact ⟨0, 0, r0, Nat.zero_le _, Nat.zero_le _, HI0.out, HB0.out⟩
  case round =>
    obtain ⟨i, k, r, hi, hk, hinv, hbs⟩ := hrel
    have HIN := Lib.hid hinv
    have HBS := Lib.hid hbs
    have hM0 := hbs.cells.2.2.2.2.1
    have hM1 := hbs.cells.2.2.2.2.2.1
    obtain ⟨c0, c1, c2, c3, c4, c5, f4, f5⟩ := hbs.cells
    have hles := lesserA_any n m i k hn hm hi hk p1 p2 (ka i) (kb k) _ _ _ _ _ _ wr c4 c0 c5 c1 c2 c3 (fun h w' hb => HF.out i k r w' h (HST.out _ _ _ _ _ HIN.out (.of_below hb))) (fun h w' hb => HS.out i k r w' h (HST.out _ _ _ _ _ HIN.out (.of_below hb)))
    have HLES := Lib.hid hles
    have hiN : (i : Int) ≤ n := by omega
    have hkN : (k : Int) ≤ m := by omega
    have hnN : (n : Int) ≤ 1000000 := by omega
    have hmN : (m : Int) ≤ 1000000 := by omega
    have HMEAS : Hid ((match wr.cell? ⟨w.heap.size + 1 + 1 + 1 + 1, 0, none⟩ with | some v => (intOf v).toNat | none => 0) = i ∧ (match wr.cell? ⟨w.heap.size + 1 + 1 + 1 + 1 + 1, 0, none⟩ with | some v => (intOf v).toNat | none => 0) = k) := Lib.hid (by rw [hM0, hM1]; exact ⟨rfl, rfl⟩)
    clear hinv hbs hM0 hM1 hles
    by_cases hend : i = n ∧ k = m
    · obtain ⟨rfl, rfl⟩ := hend
      have HFIN := Lib.hid (show BesP Inv i k (.returned (.tuple #[])) wr from ⟨rfl, r, HIN.out⟩)
      have h1 : decide (i < i) = false := by simp
      have h2 : decide (k < k) = false := by simp
      go_wp2
      go_end0
      exact HFIN.out
    have hor : i < n ∨ k < m := by omega
    have hway : (i < n ∧ (k < m → kcmp (ka i) (kb k) < 0) ∧ lesI n m i k (ka i) (kb k) < 0) ∨ (k < m ∧ (i < n → 0 < kcmp (ka i) (kb k)) ∧ 0 < lesI n m i k (ka i) (kb k)) ∨ (i < n ∧ k < m ∧ kcmp (ka i) (kb k) = 0 ∧ lesI n m i k (ka i) (kb k) = 0) := by
      unfold lesI
      by_cases a : i = n
      · rw [if_pos a]; exact .inr (.inl ⟨by omega, by omega, by omega⟩)
      · rw [if_neg a]
        by_cases b : k = m
        · rw [if_pos b]; exact .inl ⟨by omega, by omega, by omega⟩
        · rw [if_neg b]
          rcases kcmp_ord.rng (ka i) (kb k) with h | h | h
          · exact .inl ⟨by omega, by omega, by omega⟩
          · exact .inr (.inr ⟨by omega, by omega, h, h⟩)
          · exact .inr (.inl ⟨by omega, by omega, by omega⟩)
    clear hend
    generalize lesI n m i k (ka i) (kb k) = c at HLES hway
    rcases hway with ⟨hin, hcmp, hc⟩ | ⟨hkm, hcmp, hc⟩ | ⟨hin, hkm, hcmp, hc⟩
    · have h1 : decide (i < n) = true := by simpa using hin
      have HCMP := Lib.hid hcmp
      clear hcmp hor
      go_wp2_with fail
      refine HLES.out.mono ?_
      rintro e w2 ⟨rfl, hb2⟩
      have hbs2 := HBS.out.below hb2
      have HBS2 := Lib.hid hbs2
      have HIN2 := Lib.hid (HST.out _ _ _ _ _ HIN.out (.of_below hb2))
      clear c0 c1 c2 c3 c4 c5 f4 f5 hb2
      obtain ⟨c0, c1, c2, c3, c4, c5, f4, f5⟩ := hbs2.cells
      clear hbs2
      go_wp2_with fail
      refine (HL.out i k r w2 hin hk HCMP.out HIN2.out).mono ?_
      rintro e w3 ⟨rfl, r3, hin3, hst3⟩
      have hbs3 := HBS2.out.step hst3
      have HBS3 := Lib.hid hbs3
      have HIN3 := Lib.hid hin3
      clear c0 c1 c2 c3 c4 c5 f4 f5 hin3 hst3
      obtain ⟨c0, c1, c2, c3, c4, c5, f4, f5⟩ := hbs3.cells
      clear hbs3
      go_wp2
      go_roundw
      case rel => exact ⟨i + 1, k, r3, by omega, hk, HST.out _ _ _ _ _ HIN3.out (HBS3.out.frm _ (by omega) (by omega) _), HBS3.out.left⟩
      case measure =>
        rw [HMEAS.out.1, HMEAS.out.2, HBS3.out.left.cells.2.2.2.2.1, HBS3.out.left.cells.2.2.2.2.2.1]
        simp only [intOf]; omega
    · have h2 : decide (k < m) = true := by simpa using hkm
      have HCMP := Lib.hid hcmp
      have hc2 : ¬ c < 0 := by omega
      clear hcmp hor
      by_cases hin : i < n
      all_goals
        first
          | (have h1 : decide (i < n) = true := by simpa using hin)
          | (have h1 : decide (i < n) = false := by simpa using hin)
        go_wp2_with fail
        refine HLES.out.mono ?_
        rintro e w2 ⟨rfl, hb2⟩
        have hbs2 := HBS.out.below hb2
        have HBS2 := Lib.hid hbs2
        have HIN2 := Lib.hid (HST.out _ _ _ _ _ HIN.out (.of_below hb2))
        clear c0 c1 c2 c3 c4 c5 f4 f5 hb2
        obtain ⟨c0, c1, c2, c3, c4, c5, f4, f5⟩ := hbs2.cells
        clear hbs2
        go_wp2_with fail
        refine (HR.out i k r w2 hi hkm HCMP.out HIN2.out).mono ?_
        rintro e w3 ⟨rfl, r3, hin3, hst3⟩
        have hbs3 := HBS2.out.step hst3
        have HBS3 := Lib.hid hbs3
        have HIN3 := Lib.hid hin3
        clear c0 c1 c2 c3 c4 c5 f4 f5 hin3 hst3
        obtain ⟨c0, c1, c2, c3, c4, c5, f4, f5⟩ := hbs3.cells
        clear hbs3
        go_wp2
        go_roundw
        case rel => exact ⟨i, k + 1, r3, hi, by omega, HST.out _ _ _ _ _ HIN3.out (HBS3.out.frm _ (by omega) (by omega) _), HBS3.out.right⟩
        case measure =>
          rw [HMEAS.out.1, HMEAS.out.2, HBS3.out.right.cells.2.2.2.2.1, HBS3.out.right.cells.2.2.2.2.2.1]
          simp only [intOf]; omega
    · have h1 : decide (i < n) = true := by simpa using hin
      have HCMP := Lib.hid hcmp
      clear hcmp hor
      subst hc
      go_wp2_with fail
      refine HLES.out.mono ?_
      rintro e w2 ⟨rfl, hb2⟩
      have hbs2 := HBS.out.below hb2
      have HBS2 := Lib.hid hbs2
      have HIN2 := Lib.hid (HST.out _ _ _ _ _ HIN.out (.of_below hb2))
      clear c0 c1 c2 c3 c4 c5 f4 f5 hb2
      obtain ⟨c0, c1, c2, c3, c4, c5, f4, f5⟩ := hbs2.cells
      clear hbs2
      go_wp2_with fail
      refine (HM.out i k r w2 hin hkm HCMP.out HIN2.out).mono ?_
      rintro e w3 ⟨rfl, r3, hin3, hst3⟩
      have hbs3 := HBS2.out.step hst3
      have HBS3 := Lib.hid hbs3
      have HIN3 := Lib.hid hin3
      clear c0 c1 c2 c3 c4 c5 f4 f5 hin3 hst3
      obtain ⟨c0, c1, c2, c3, c4, c5, f4, f5⟩ := hbs3.cells
      clear hbs3
      go_wp2
      go_roundw
      case rel => exact ⟨i + 1, k + 1, r3, by omega, by omega, HST.out _ _ _ _ _ (HST.out _ _ _ _ _ HIN3.out (HBS3.out.frm _ (by omega) (by omega) _)) (HBS3.out.left.frm _ (by omega) (by omega) _), HBS3.out.left.right⟩
      case measure =>
        rw [HMEAS.out.1, HMEAS.out.2, HBS3.out.left.right.cells.2.2.2.2.1, HBS3.out.left.right.cells.2.2.2.2.2.1]
        simp only [intOf]; omega
end Go.Proofs.Ytoibanffaebllaa
