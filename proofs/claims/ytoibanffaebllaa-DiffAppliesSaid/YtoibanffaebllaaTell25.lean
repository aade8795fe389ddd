/-
  Layer 25: what diff.Tell tells of the document's example. Own work.
-/
import Derived.Test.YtoibanffaebllaaGath25
import Derived.Test.YtoibanffaebllaaMayL24
import Derived.RegionTactic
import Derived.BigRegion
namespace Go.Proofs.Ytoibanffaebllaa
set_option linter.unusedVariables false
set_option linter.unusedSimpArgs false
open Go.RowKit

def joinB (xs : List ByteArray) : ByteArray := ⟨(Lib.join (xs.map (·.data.toList)) [32]).toArray⟩
set_option maxHeartbeats 1000000 in
theorem spaced_any (bk : Nat) (xs : List ByteArray) (w : World) (hcells : ∀ (j : Nat) x, xs[j]? = some x → w.cell? ⟨bk, j, none⟩ = some (.string x)) (hbk : bk < w.heap.size) (hN : xs.length ≤ 1000) (hlen : (Lib.join (xs.map (·.data.toList)) [32]).length ≤ 1000000) (n : Nat) (hn : n = xs.length) :
    Calls Try.prog 43 #[.slice (some ⟨bk, 0, none⟩) n n] w fun e w' => e = .returned (.string (joinB xs)) ∧ Below w.heap.size w w' := by
  subst hn
  have hj := Try.strings_Join bk 0 xs.length xs ⟨#[32]⟩ w (by simpa using hcells) hbk (by omega) (Nat.le_refl _) (by show (Lib.join _ [32]).length ≤ _; omega)
  have e1 : (⟨#[32]⟩ : ByteArray).data.toList = [32] := rfl
  rw [e1] at hj
  have he : (⟨(Lib.join (xs.map (·.data.toList)) [32]).toArray⟩ : ByteArray) = joinB xs := rfl
  rw [he] at hj
  generalize joinB xs = s at hj ⊢
  have HJ := Lib.hid hj
  clear hj he
  go_enter Try.func43, Try.ntmps43
  go_wp2_with fail
  refine HJ.out.mono ?_
  rintro e w2 ⟨rfl, hb2⟩
  have HB := Lib.hid hb2
  clear hb2
  go_wp2
  go_ret
  exact ⟨rfl, HB.out⟩
def wComp : ByteArray := ⟨#[99, 111, 109, 112, 105, 108, 101]⟩
theorem Word_one (w : World) : Calls Try.prog 54 #[.int .i64 1] w fun e w' => e = .returned (.string wComp) ∧ w' = w := by
  go_enter Try.func54, Try.ntmps54
  go_wp2
  go_ret
  exact ⟨rfl, rfl⟩
/-- a pin of the example -/
def exPin (a v : ByteArray) : Pn := ⟨⟨#[103]⟩, a, ⟨#[106, 97, 114]⟩, ⟨#[]⟩, v, 1⟩
theorem pin_any (x y : ByteArray) (w : World) : Calls Try.prog 22 #[.string x, .string y] w fun e w' => e = .returned (pnV (exPin x y)) ∧ Below w.heap.size w w' := by
  unfold pnV exPin
  go_enter Try.func22, Try.ntmps22
  go_wp2
  refine bodyPost_ret (results_cell_row (P := Try.prog) rfl _ _ w.heap.size 48 #[.string ⟨#[103]⟩, .string x, .string ⟨#[106, 97, 114]⟩, .string ⟨#[]⟩, .string y, .int .i64 1] (0, 0) _ rfl (heap_alloc_new w _) Try.underlying48 rfl (by kernel_rfl)) rfl ?_
  exact ⟨rfl, (Below.refl _ _).alloc (Nat.le_refl _) _⟩
/-- what is told of a pin -/
def tellB (v : ByteArray) : ByteArray := joinB [v, wComp]
set_option maxRecDepth 100000 in
set_option maxHeartbeats 2000000 in
theorem tellPin_any (a v : ByteArray) (hv : v.size ≤ 1000) (w : World) :
    Calls Try.prog 44 #[pnV (exPin a v)] w fun e w' => e = .returned (.string (tellB v)) ∧ Below w.heap.size w w' := by
  have hsp := fun (w' : World) (bk : Nat) (h0 : w'.cell? ⟨bk, 0, none⟩ = some (.string v)) (h1 : w'.cell? ⟨bk, 1, none⟩ = some (.string wComp)) => spaced_any bk [v, wComp] w' (fun j x hx => by
    match j with
    | 0 => simp at hx; subst hx; exact h0
    | 1 => simp at hx; subst hx; exact h1
    | j + 2 => simp at hx) (World.block_lt_of_cell? w' _ h0) (by simp) (by
      have : v.data.toList.length = v.size := by simp
      have : wComp.size = 7 := rfl
      simp [Lib.join, List.intercalate]; omega) 2 rfl
  have ht : joinB [v, wComp] = tellB v := rfl
  rw [ht] at hsp
  generalize tellB v = T at hsp ⊢
  have HSP := Lib.hid hsp
  have HW := Lib.hid Word_one
  have HB0 := Lib.hid (show Below w.heap.size w (w.alloc (.cells #[.string ⟨#[103]⟩, .string a, .string ⟨#[106, 97, 114]⟩, .string ⟨#[]⟩, .string v, .int .i64 1] 48)) from (Below.refl _ _).alloc (Nat.le_refl _) _)
  have h4 : (w.alloc (.cells #[.string ⟨#[103]⟩, .string a, .string ⟨#[106, 97, 114]⟩, .string ⟨#[]⟩, .string v, .int .i64 1] 48)).cell? ⟨w.heap.size, 4, none⟩ = some (.string v) := by simp [go_sem]
  have h5 : (w.alloc (.cells #[.string ⟨#[103]⟩, .string a, .string ⟨#[106, 97, 114]⟩, .string ⟨#[]⟩, .string v, .int .i64 1] 48)).cell? ⟨w.heap.size, 5, none⟩ = some (.int .i64 1) := by simp [go_sem]
  clear hsp ht hv
  unfold pnV exPin
  generalize hWC : wComp = WC at HW HSP
  go_enter Try.func44, Try.ntmps44
  go_upto_region 1 with fail
  generalize w.alloc (.cells #[.string ⟨#[103]⟩, .string a, .string ⟨#[106, 97, 114]⟩, .string ⟨#[]⟩, .string v, .int .i64 1] 48) = w1 at HB0 h4 h5 ⊢
  generalize hVe : w.heap.size = V at h4 h5 ⊢
  clear hVe
  have hb1 := Below.refl w1.heap.size w1
  clear hWC
  refine wp_region_held_drew (S := (fun w' => w'.cell? ⟨V, 4, none⟩ = some (.string v) ∧ w'.cell? ⟨V, 5, none⟩ = some (.int .i64 1) ∧ Below w1.heap.size w1 w')) (by kernel_rfl) (by (try dsimp only); exact ⟨h4, h5, hb1.drew⟩) (fun hHeld => ?_)
  refine wpAnyH_take (i := 0) (v := ?_) (by (simp only [List.getElem?_toArray, List.getElem?_cons_succ, List.getElem?_cons_zero]; rfl)) (by kernel_rfl) (by kernel_rfl) (by kernel_rfl) (by intro _ _ _ h; exact h) (Or.inl ⟨by rfl, ?_⟩) (by assumption) ?_
  rotate_left
  · (intro w hSw; (try dsimp only at hSw); go_simp; try (with_reducible rfl))
  simp only [Act.put, List.setIfInBounds_toArray, List.set_cons_zero, List.set_cons_succ]
  refine wpAnyH_take (i := 1) (v := ?_) (by (simp only [List.getElem?_toArray, List.getElem?_cons_succ, List.getElem?_cons_zero]; rfl)) (by kernel_rfl) (by kernel_rfl) (by kernel_rfl) (by intro _ _ _ h; exact h) (Or.inl ⟨by rfl, ?_⟩) (by assumption) ?_
  rotate_left
  · (intro w hSw; (try dsimp only at hSw); go_simp; try (with_reducible rfl))
  simp only [Act.put, List.setIfInBounds_toArray, List.set_cons_zero, List.set_cons_succ]
  refine wpAnyH_take (i := 2) (v := ?_) (by (simp only [List.getElem?_toArray, List.getElem?_cons_succ, List.getElem?_cons_zero]; rfl)) (by kernel_rfl) (by kernel_rfl) (by kernel_rfl) (by intro _ _ _ h; exact h) (Or.inl ⟨by rfl, ?_⟩) (by assumption) ?_
  rotate_left
  · (intro w hSw; (try dsimp only at hSw); go_simp; try (with_reducible rfl))
  simp only [Act.put, List.setIfInBounds_toArray, List.set_cons_zero, List.set_cons_succ]
  refine wpAnyH_take (i := 3) (v := ?_) (by (simp only [List.getElem?_toArray, List.getElem?_cons_succ, List.getElem?_cons_zero]; rfl)) (by kernel_rfl) (by kernel_rfl) (by kernel_rfl) (by intro _ _ _ h; exact h) (Or.inl ⟨by rfl, ?_⟩) (by assumption) ?_
  rotate_left
  · (intro w hSw; (try dsimp only at hSw); go_simp; try (with_reducible rfl))
  simp only [Act.put, List.setIfInBounds_toArray, List.set_cons_zero, List.set_cons_succ]
  refine wpAnyH_ready (rs := [4]) (by kernel_rfl) (by simp) ?_
  refine AllReadyH.cons (by (simp only [List.getElem?_toArray, List.getElem?_cons_succ, List.getElem?_cons_zero]; rfl)) (fun K hK => ?_) AllReadyH.nil
  go_simp
  (go_at_call 54; (with_reducible refine (HW.out _).mono ?_); rintro e wx ⟨rfl, rfl⟩; go_wp2_with fail)
  refine hK.out _ _ hHeld (fun hHeld => ?_)
  clear hK K
  try simp only [Act.put, List.setIfInBounds_toArray, List.set_cons_zero, List.set_cons_succ]
  refine wpAnyH_ready (rs := [5]) (by kernel_rfl) (by simp) ?_
  refine AllReadyH.cons (by (simp only [List.getElem?_toArray, List.getElem?_cons_succ, List.getElem?_cons_zero]; rfl)) (fun K hK => ?_) AllReadyH.nil
  go_simp
  have hcell4 := World.block_lt_of_cell? _ _ hHeld.1
  have hcell5 := World.block_lt_of_cell? _ _ hHeld.2.1
  refine hK.out _ _ ⟨(((Below.refl _ _).alloc (Nat.le_refl _) _).cell hcell4).trans hHeld.1, (((Below.refl _ _).alloc (Nat.le_refl _) _).cell hcell5).trans hHeld.2.1, hHeld.2.2.alloc hHeld.2.2.size _⟩ (fun hHeld => ?_)
  clear hK K
  try simp only [Act.put, List.setIfInBounds_toArray, List.set_cons_zero, List.set_cons_succ]
  refine wpAnyH_ready (rs := [6]) (by kernel_rfl) (by simp) ?_
  refine AllReadyH.cons (by (simp only [List.getElem?_toArray, List.getElem?_cons_succ, List.getElem?_cons_zero]; rfl)) (fun K hK => ?_) AllReadyH.nil
  go_simp
  (go_at_call 43; (with_reducible refine (HSP.out _ _ (by simp [go_sem]) (by simp [go_sem])).mono ?_); rintro e wy ⟨rfl, hby⟩; go_wp2_with fail)
  have hc4 := World.block_lt_of_cell? _ _ hHeld.1
  have hc5 := World.block_lt_of_cell? _ _ hHeld.2.1
  refine hK.out _ _ ⟨(hby.cell hc4).trans hHeld.1, (hby.cell hc5).trans hHeld.2.1, hHeld.2.2.trans (hby.mono hHeld.2.2.size)⟩ (fun hHeld => ?_)
  clear hK K
  try simp only [Act.put, List.setIfInBounds_toArray, List.set_cons_zero, List.set_cons_succ]
  refine wpAnyH_take (i := 7) (v := ?_) (by (simp only [List.getElem?_toArray, List.getElem?_cons_succ, List.getElem?_cons_zero]; rfl)) (by kernel_rfl) (by kernel_rfl) (by kernel_rfl) (by intro _ _ _ h; exact h) (Or.inl ⟨by rfl, ?_⟩) (by assumption) ?_
  rotate_left
  · (intro w hSw; (try dsimp only at hSw); go_simp; try (with_reducible rfl))
  simp only [Act.put, List.setIfInBounds_toArray, List.set_cons_zero, List.set_cons_succ]
  refine wpAnyH_done (by kernel_rfl) ?_ _
  have HF := Lib.hid hHeld.2.2
  clear hHeld
  go_wp2
  go_ret
  exact ⟨rfl, HB0.out.trans (HF.out.mono HB0.out.size)⟩
end Go.Proofs.Ytoibanffaebllaa
