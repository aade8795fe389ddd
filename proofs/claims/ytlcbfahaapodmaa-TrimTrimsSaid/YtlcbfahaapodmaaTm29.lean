/-
  Layer 29: Trim. Own work.
-/
import Derived.Test.YtlcbfahaapodmaaTd29
import Derived.Test.YtlcbfahaapodmaaRw29
namespace Go.Proofs.Ytlcbfahaapodmaa
set_option linter.unusedVariables false
set_option linter.unusedSimpArgs false
open Go.RowKit

theorem results_row_tmp {P : Program} {fn : Func} {p u : Tmp} {ty : TypeId} (h : fn.results = #[.cell p ty, .tmp u]) (tmps : Array Value) (w : World) (g : Nat) (t : TypeId) (cs : Array Value) (fr : Nat × Nat) (d : TypeDesc) (v : Value)
    (hp : tmps.getD p undef = .pointer (some ⟨g, 0, none⟩)) (hq : tmps.getD u undef = v) (hg : w.heap[g]? = some (.cells cs t fr))
    (hu : P.underlying ty = some d) (hd : (match d with | .struct _ | .array _ _ => true | _ => false) = true) (hi : (P.info? ty).map (·.size) = some cs.size) :
    (results fn tmps).run P w = .ok (.tuple #[.agg cs, v]) w := by
  have hp' : tmps[p]?.getD undef = .pointer (some ⟨g, 0, none⟩) := by simpa using hp
  have hq' : tmps[u]?.getD undef = v := by simpa using hq
  simp [results, h, hp', hq', asAddr, run_loadVar_row w g t ty cs fr d hg hu hd hi]
theorem below_set3 {w wx : World} {B : Nat} (h : Below w.heap.size w wx) (hB : w.heap.size ≤ B) (y0 y1 y2 : Value) : Below w.heap.size w (((wx.setCell ⟨B, 0, none⟩ y0).setCell ⟨B, 1, none⟩ y1).setCell ⟨B, 2, none⟩ y2) :=
  ((h.setCell hB _).setCell hB _).setCell hB _
theorem mayQ_zero {vars : Int} {cs : List (List Int)} (h : mayQ vars cs = 0) : 0 ≤ vars ∧ vars ≤ 1024 ∧ cs.length ≤ 16384 ∧ (∀ c ∈ cs, c.length ≤ 2048) ∧ ∀ c ∈ cs, ∀ n ∈ c, -vars ≤ n ∧ n ≤ vars ∧ n ≠ 0 := by
  unfold mayQ at h
  split at h
  · cases h
  · next h1 =>
    split at h
    · cases h
    · next h2 =>
      split at h
      · cases h
      · next h3 =>
        split at h
        · next h4 =>
          refine ⟨by omega, by omega, by omega, fun c hc => ?_, fun c hc n hn => ?_⟩
          · refine Nat.not_lt.1 fun hl => h2 (List.any_eq_true.2 ⟨c, hc, by simpa using hl⟩)
          · have h5 := List.all_eq_true.1 (List.all_eq_true.1 h4 c hc) n hn
            unfold okL at h5
            simp at h5
            exact ⟨by omega, by omega, h5.1.1⟩
        · cases h
theorem newS_bn {vars : Nat} {cs : List (List Int)} (h : mayQ vars cs = 0) (hsz : sizeC cs ≤ 1000000) : BN { newS vars cs.length with L := cs } := by
  obtain ⟨h1, h2, h3, h4, h5⟩ := mayQ_zero h
  exact ⟨rfl, rfl, ⟨by show (List.replicate cs.length false).length = cs.length; simp, by show vars ≤ 100000; omega, h5, hsz⟩, rfl, fun _ => rfl, fun _ => rfl, rfl, rfl, rfl, rfl, rfl⟩
theorem mayQ_rng (vars : Int) (cs : List (List Int)) : 0 ≤ mayQ vars cs ∧ mayQ vars cs ≤ 2 := by
  unfold mayQ
  split
  · omega
  · split
    · omega
    · split
      · omega
      · split <;> omega
section
set_option maxHeartbeats 2000000 in
set_option maxRecDepth 100000 in
theorem Trim29_any {vars : Int} {cs : List (List Int)} (cv : Value) (w : World) (hv : -9223372036854775808 ≤ vars ∧ vars ≤ 9223372036854775807) (hc : Reads2 w cv cs) (hsz : sizeC cs ≤ 1000000) :
    Calls Try.prog 9 #[.agg #[.int .i64 vars, cv]] w fun e w' => Below w.heap.size w w' ∧
      ((mayQ vars cs = 0 ∧ ∃ dv fv, e = .returned (.tuple #[.agg #[.int .i64 vars, dv, fv], .int .i64 0]) ∧ CapOk dv ∧ ∀ wx, UpW w.heap.size w' wx → Reads2 wx dv (trimM vars.toNat cs).C ∧ Reads wx iV fv (trimM vars.toNat cs).fx) ∨
       (mayQ vars cs ≠ 0 ∧ e = .returned (.tuple #[.agg #[.int .i64 0, .slice none 0 0, .slice none 0 0], .int .i64 (mayQ vars cs)]))) := by
  have hrng := mayQ_rng vars cs
  obtain ⟨ca, cp, rfl, hlen, hrow⟩ := hc
  have HC := Lib.hid (show Reads2 w (.slice ca cs.length cp) cs from ⟨ca, cp, rfl, hlen, hrow⟩)
  clear hlen hrow
  have HB1 := Lib.hid (show Below w.heap.size w ((w.alloc (.cells #[.int .i64 vars, .slice ca cs.length cp] 24)).alloc (.cells #[.int .i64 0, .slice none 0 0, .slice none 0 0] 29)) from ((Below.refl _ w).alloc (Nat.le_refl _) _).alloc (by simp) _)
  have HZ1 := Lib.hid (show w.heap.size + 2 ≤ ((w.alloc (.cells #[.int .i64 vars, .slice ca cs.length cp] 24)).alloc (.cells #[.int .i64 0, .slice none 0 0, .slice none 0 0] 29)).heap.size from by simp)
  have HQ1 := Lib.hid (show ((w.alloc (.cells #[.int .i64 vars, .slice ca cs.length cp] 24)).alloc (.cells #[.int .i64 0, .slice none 0 0, .slice none 0 0] 29)).heap[w.heap.size]? = some (.cells #[.int .i64 vars, .slice ca cs.length cp] 24 (0, 0)) from (Below.heap_alloc _ _ _ (by simp)).trans (heap_alloc_new _ _))
  have HR1 := Lib.hid (show ((w.alloc (.cells #[.int .i64 vars, .slice ca cs.length cp] 24)).alloc (.cells #[.int .i64 0, .slice none 0 0, .slice none 0 0] 29)).heap[w.heap.size + 1]? = some (.cells #[.int .i64 0, .slice none 0 0, .slice none 0 0] 29 (0, 0)) from heap_alloc2_new _ _ _)
  go_enter Try.func9, Try.ntmps9
  go_upto_region 1 with fail
  generalize ((w.alloc (.cells #[.int .i64 vars, .slice ca cs.length cp] 24)).alloc (.cells #[.int .i64 0, .slice none 0 0, .slice none 0 0] 29)) = W1 at HB1 HZ1 HQ1 HR1 ⊢
  have hq0 : W1.cell? ⟨w.heap.size, 0, none⟩ = some (.int .i64 vars) := by rw [cell_of_row W1 _ 0 _ _ (0, 0) HQ1.out]; rfl
  have hq1 : W1.cell? ⟨w.heap.size, 1, none⟩ = some (.slice ca cs.length cp) := by rw [cell_of_row W1 _ 1 _ _ (0, 0) HQ1.out]; rfl
  have HCM := Lib.hid (May29_any (.slice ca cs.length cp) W1 hv (HC.out.below29 HB1.out (Nat.le_refl _)))
  go_wp2_with fail
  refine HCM.out.mono ?_
  rintro e w2 ⟨rfl, hg2⟩
  clear hq0 hq1
  have HB2 := Lib.hid (show Below w.heap.size w w2 from HB1.out.grown hg2 (by have := HZ1.out; omega) (fun k hk => by cases hk))
  have HZ2 := Lib.hid (show w.heap.size + 2 ≤ w2.heap.size from by have h1 := HZ1.out; have h2 := hg2.size; omega)
  have HQ2 := Lib.hid ((hg2.block _ (Array.getElem?_eq_some_iff.1 HQ1.out).1 (by simp)).trans HQ1.out)
  have HR2 := Lib.hid ((hg2.block _ (Array.getElem?_eq_some_iff.1 HR1.out).1 (by simp)).trans HR1.out)
  clear hg2
  have HM := Lib.hid (rfl : mayQ vars cs = mayQ vars cs)
  by_cases hm : mayQ vars cs = 0
  · have hm2 : (mayQ vars cs == 0) = true := by rw [hm]; rfl
    have hq0 : w2.cell? ⟨w.heap.size, 0, none⟩ = some (.int .i64 vars) := by rw [cell_of_row w2 _ 0 _ _ (0, 0) HQ2.out]; rfl
    have hq1 : w2.cell? ⟨w.heap.size, 1, none⟩ = some (.slice ca cs.length cp) := by rw [cell_of_row w2 _ 1 _ _ (0, 0) HQ2.out]; rfl
    have HMZ := Lib.hid hm
    obtain ⟨b1, b2, b3, b4, b5⟩ := mayQ_zero hm
    obtain ⟨k, rfl⟩ : ∃ k : Nat, vars = (k : Int) := ⟨vars.toNat, by omega⟩
    have HN := Lib.hid (newWork29_any (vars := k) (.slice ca cs.length cp) w2 (by omega) (HC.out.below29 HB2.out (Nat.le_refl _)) (by omega) (fun c hc => Nat.le_trans (b4 c hc) (by omega)))
    have HBN := Lib.hid (newS_bn (vars := k) hm hsz)
    clear hm b4 b5
    go_wp2_with fail
    refine HN.out.mono ?_
    rintro e w3 ⟨M, rfl, hk3, hb3⟩
    have HRN := Lib.hid (run29_any hk3 HBN.out)
    go_wp2_with fail
    refine HRN.out.mono ?_
    rintro e w4 ⟨rfl, M4, S4, hk4, hb4, hm4, hv4, hs4, hd4, hz4⟩
    have HTR := trimmed29_any hk4 (fun e => by
      have h1 := hz4 e
      exact ⟨Nat.le_trans (size_len S4.L) h1.size, h1.gl⟩)
    rw [hm4] at HTR
    have HTR := Lib.hid HTR
    have HB4 := Lib.hid (hb3.trans hb4)
    have HEQ := Lib.hid (show absW S4 = trimM k cs from trimM_of (C := cs) (by
      have h1 := hs4
      rw [HBN.out.abs] at h1
      exact h1) hd4)
    have HV4 := Lib.hid (show S4.vars = k from hv4)
    clear hk3 hb3 hk4 hb4 hm4 hv4 hs4 hd4 hz4
    go_wp2_with fail
    refine HTR.out.mono ?_
    rintro e w5 ⟨dv, fv, rfl, hcap, hdf, hb5⟩
    have HCAP := Lib.hid hcap
    clear hcap
    obtain ⟨⟨da, dc, hdd, _⟩, hff⟩ := hdf w5 (UpW.refl _ _)
    obtain ⟨fa, fc, hff, _⟩ := reads_shape hff
    generalize (absW S4).C.length = dn at hdd
    generalize S4.fx.length = fn at hff
    subst hdd hff
    have HB5 := Lib.hid (HB4.out.trans hb5)
    have HR5 := Lib.hid ((HB5.out.block _ (by have := HZ2.out; omega)).trans HR2.out)
    have HDF := Lib.hid (show ∀ wx, UpW w2.heap.size w5 wx → Reads2 wx (.slice da dn dc) (trimM k cs).C ∧ Reads wx iV (.slice fa fn fc) (trimM k cs).fx from fun wx hu => by
      rw [← HEQ.out]
      exact hdf wx hu)
    rw [HV4.out]
    have f0 := frozen_of_row w5 _ 0 _ _ HR5.out
    have f1 := frozen_of_row w5 _ 1 _ _ HR5.out
    have f2 := frozen_of_row w5 _ 2 _ _ HR5.out
    have r0 : w5.cell? ⟨w.heap.size + 1, 0, none⟩ = some (.int .i64 0) := by rw [cell_of_row w5 _ 0 _ _ (0, 0) HR5.out]; rfl
    have r1 : w5.cell? ⟨w.heap.size + 1, 1, none⟩ = some (.slice none 0 0) := by rw [cell_of_row w5 _ 1 _ _ (0, 0) HR5.out]; rfl
    have r2 : w5.cell? ⟨w.heap.size + 1, 2, none⟩ = some (.slice none 0 0) := by rw [cell_of_row w5 _ 2 _ _ (0, 0) HR5.out]; rfl
    clear hdf hb5 hq0 hq1
    go_wp2
    refine bodyPost_ret (results_row_tmp (P := Try.prog) rfl _ _ (w.heap.size + 1) 29 _ (0, 0) _ (.int .i64 0) rfl rfl (row_set3 (.int .i64 (k : Int)) (.slice da dn dc) (.slice fa fn fc) _ HR5.out) Try.underlying29 rfl (by kernel_rfl)) rfl ?_
    refine ⟨below_set3 (HB2.out.trans (HB5.out.mono (by have := HZ2.out; omega))) (by omega) _ _ _, .inl ⟨HMZ.out, _, _, rfl, HCAP.out, fun wx hu => HDF.out wx (fun b h1 h2 => ?_)⟩⟩
    have hz := HZ2.out
    refine (hu b (by omega) (by simpa using h2)).trans ?_
    rw [heap_setCell_other _ _ _ _ (fun e => by simp only at e; omega), heap_setCell_other _ _ _ _ (fun e => by simp only at e; omega), heap_setCell_other _ _ _ _ (fun e => by simp only at e; omega)]
  · have hm2 : (mayQ vars cs == 0) = false := by simpa using hm
    have hmI : ¬ (mayQ vars cs = 0) := hm
    have f0 := frozen_of_row w2 _ 0 _ _ HR2.out
    have f1 := frozen_of_row w2 _ 1 _ _ HR2.out
    have f2 := frozen_of_row w2 _ 2 _ _ HR2.out
    have r0 : w2.cell? ⟨w.heap.size + 1, 0, none⟩ = some (.int .i64 0) := by rw [cell_of_row w2 _ 0 _ _ (0, 0) HR2.out]; rfl
    have r1 : w2.cell? ⟨w.heap.size + 1, 1, none⟩ = some (.slice none 0 0) := by rw [cell_of_row w2 _ 1 _ _ (0, 0) HR2.out]; rfl
    have r2 : w2.cell? ⟨w.heap.size + 1, 2, none⟩ = some (.slice none 0 0) := by rw [cell_of_row w2 _ 2 _ _ (0, 0) HR2.out]; rfl
    have HMI := Lib.hid hm
    clear hm hmI
    go_wp2
    refine bodyPost_ret (results_row_tmp (P := Try.prog) rfl _ _ (w.heap.size + 1) 29 _ (0, 0) _ (.int .i64 (mayQ vars cs)) rfl rfl (row_set3 (.int .i64 0) (.slice none 0 0) (.slice none 0 0) _ HR2.out) Try.underlying29 rfl (by kernel_rfl)) rfl ?_
    exact ⟨below_set3 HB2.out (by omega) _ _ _, .inr ⟨HMI.out, rfl⟩⟩
end
end Go.Proofs.Ytlcbfahaapodmaa
