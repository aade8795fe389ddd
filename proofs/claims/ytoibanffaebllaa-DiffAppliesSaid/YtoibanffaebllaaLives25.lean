/-
  Layer 25: the document's example holds. Own work.
-/
import Derived.Test.YtoibanffaebllaaTell25b
import Derived.Test.YtoibanffaebllaaEdits25
namespace Go.Proofs.Ytoibanffaebllaa
set_option linter.unusedVariables false
set_option linter.unusedSimpArgs false
open Go.RowKit

def cB : ByteArray := ⟨#[98]⟩
def cC : ByteArray := ⟨#[99]⟩
def c1 : ByteArray := ⟨#[49]⟩
def c2 : ByteArray := ⟨#[50]⟩
def exA : List Pn := [exPin cB c1]
def exB : List Pn := [exPin cB c2, exPin cC c1]
theorem ex_mayA : mayLock ⟨#[103]⟩ ⟨#[97]⟩ ⟨#[49]⟩ exA = true := by kernel_rfl
theorem ex_mayB : mayLock ⟨#[103]⟩ ⟨#[97]⟩ ⟨#[49]⟩ exB = true := by kernel_rfl
theorem ex_edits : editsL true true exA exB = [exE0 cB c1 c2, exE1 cC c1] := by
  have h1 : kcmp (Pn.key (exPin cB c1)) (Pn.key (exPin cB c2)) = 0 := by kernel_rfl
  have e : editsL true true exA exB = mrg Pn.key Pn.key edF exA exB := rfl
  rw [e]
  unfold exA exB
  have g1 : edF (some (exPin cB c1)) (some (exPin cB c2)) = some (exE0 cB c1 c2) := by
    have : sameP (exPin cB c1) (exPin cB c2) = false := by kernel_rfl
    simp only [edF]
    rw [if_neg (by rw [this]; simp)]
    rfl
  have g2 : edF none (some (exPin cC c1)) = some (exE1 cC c1) := by
    have : sameP zP (exPin cC c1) = false := by kernel_rfl
    simp only [edF]
    rw [if_neg (by rw [this]; simp)]
    rfl
  rw [mrg, if_neg (by omega), if_neg (by omega), mrg, mrg, g1, g2]
  rfl
theorem ex_okA : ∀ p ∈ exA, okP p := by
  intro p hp
  simp only [exA, List.mem_cons, List.not_mem_nil, or_false] at hp
  subst hp
  exact ⟨by unfold okT; decide, by unfold okT; decide, by unfold okT; decide, by unfold okT; decide, by unfold okT; decide⟩
theorem ex_okB : ∀ p ∈ exB, okP p := by
  intro p hp
  simp only [exB, List.mem_cons, List.not_mem_nil, or_false] at hp
  rcases hp with rfl | rfl
  all_goals exact ⟨by unfold okT; decide, by unfold okT; decide, by unfold okT; decide, by unfold okT; decide, by unfold okT; decide⟩
theorem ex_line0 : exL0 cB c1 c2 = ⟨#[126, 32, 103, 58, 98, 58, 106, 97, 114, 32, 49, 32, 99, 111, 109, 112, 105, 108, 101, 32, 116, 111, 32, 50, 32, 99, 111, 109, 112, 105, 108, 101]⟩ := by kernel_rfl
theorem ex_line1 : exL1 cC c1 = ⟨#[43, 32, 103, 58, 99, 58, 106, 97, 114, 32, 49, 32, 99, 111, 109, 112, 105, 108, 101]⟩ := by kernel_rfl
theorem keepG {w w1 w2 : World} {A0 A1 A2 : Addr} {x0 x1 x2 : Value} (h : w1.cell? A0 = some x0 ∧ w1.cell? A1 = some x1 ∧ w1.cell? A2 = some x2 ∧ Below w.heap.size w w1) (hb : Below w1.heap.size w1 w2) :
    w2.cell? A0 = some x0 ∧ w2.cell? A1 = some x1 ∧ w2.cell? A2 = some x2 ∧ Below w.heap.size w w2 := by
  obtain ⟨h0, h1, h2, h5⟩ := h
  have hc : ∀ {A : Addr} {x : Value}, w1.cell? A = some x → w2.cell? A = some x := fun hx => (hb.cell (World.block_lt_of_cell? w1 _ hx)).trans hx
  exact ⟨hc h0, hc h1, hc h2, h5.trans (hb.mono h5.size)⟩
theorem keepGd {w w1 : World} {A0 A1 A2 : Addr} {x0 x1 x2 : Value} (h : w1.cell? A0 = some x0 ∧ w1.cell? A1 = some x1 ∧ w1.cell? A2 = some x2 ∧ Below w.heap.size w w1) :
    w1.drew.cell? A0 = some x0 ∧ w1.drew.cell? A1 = some x1 ∧ w1.drew.cell? A2 = some x2 ∧ Below w.heap.size w w1.drew := ⟨h.1, h.2.1, h.2.2.1, h.2.2.2.drew⟩
theorem keepGa {w w1 : World} {A0 A1 A2 : Addr} {x0 x1 x2 : Value} {o : Obj} (h : w1.cell? A0 = some x0 ∧ w1.cell? A1 = some x1 ∧ w1.cell? A2 = some x2 ∧ Below w.heap.size w w1) :
    (w1.alloc o).cell? A0 = some x0 ∧ (w1.alloc o).cell? A1 = some x1 ∧ (w1.alloc o).cell? A2 = some x2 ∧ Below w.heap.size w (w1.alloc o) := keepG h ((Below.refl _ _).alloc (Nat.le_refl _) _)
theorem belowG {w w1 : World} {A0 A1 A2 : Addr} {x0 x1 x2 : Value} (h : w1.cell? A0 = some x0 ∧ w1.cell? A1 = some x1 ∧ w1.cell? A2 = some x2 ∧ Below w.heap.size w w1) : Below w.heap.size w w1 := h.2.2.2
/-- a lock that was laid: its variable, its pins, the root's variable -/
def LkP (l : List Pn) (V : Nat) (w1 : World) (t : Value) (w' : World) : Prop :=
  ∃ Y pv, t = .pointer (some ⟨Y, 0, none⟩) ∧ LkIn w' Y ⟨#[103]⟩ ⟨#[97]⟩ ⟨#[49]⟩ pv ∧ RdN w' pv l ∧ w'.cell? ⟨V, 0, none⟩ = some (.string ⟨#[103]⟩) ∧ w'.cell? ⟨V, 1, none⟩ = some (.string ⟨#[97]⟩) ∧ w'.cell? ⟨V, 2, none⟩ = some (.string ⟨#[49]⟩) ∧ Below w1.heap.size w1 w'
theorem RdN.lit {w : World} {X : Nat} {l : List Pn} {cs : Array Value} (hX : w.heap[X]? = some (.cells cs 48 (0, 0))) (hl : l.length ≤ 1000) (hc : cs = (rowN l).toArray := by rfl) : RdN w (.slice (some ⟨X, 0, none⟩) l.length l.length) l := by
  subst hc
  refine .inr ⟨⟨X, 0, none⟩, l.length, rfl, Nat.le_refl _, by omega, fun i p hp c u hu => ?_⟩
  have hc6 : c < 6 := by have := (List.getElem?_eq_some_iff.1 hu).1; simpa [pnCells] using this
  rw [add_off, cell_of_row w X _ _ _ (0, 0) hX]
  have := rowN_at l i c p hp hc6
  rw [hu] at this
  simpa using this
theorem RdN.farL {w : World} {v : Value} {l : List Pn} {R : Nat} {c' : Array Value} (h : RdN w v l) (hR : ∀ k, v.ownBlock = some k → k ≠ R) : RdN (w.setRow R c') v l := by
  rcases h with h | ⟨a, cap, h1, h2, h3, h5⟩
  · exact .inl h
  · refine .inr ⟨a, cap, h1, h2, h3, fun i p hp c u hu => ?_⟩
    have hne : a.block ≠ R := hR a.block (by rw [h1]; rfl)
    have hab : ∀ j, (a.add j).block = a.block := fun j => by unfold Addr.add; split <;> rfl
    exact (cell_setRow_other w R c' _ (by rw [hab]; exact hne)).trans (h5 i p hp c u hu)
theorem LkIn.of_row {w : World} {Y : Nat} {g a v : ByteArray} {pv : Value} (h : w.heap[Y]? = some (.cells #[.string g, .string a, .string v, pv] 26 (0, 0))) : LkIn w Y g a v pv :=
  ⟨by rw [cell_of_row w Y 0 _ _ (0, 0) h]; rfl, by rw [cell_of_row w Y 1 _ _ (0, 0) h]; rfl, by rw [cell_of_row w Y 2 _ _ (0, 0) h]; rfl, by rw [cell_of_row w Y 3 _ _ (0, 0) h]; rfl⟩
set_option maxRecDepth 100000 in
set_option maxHeartbeats 4000000 in
theorem lives_any (w : World) : Calls Try.prog 9 #[] w fun e w' => e = .returned (.bool true) ∧ Below w.heap.size w w' := by
  have hpin := pin_any
  unfold pnV exPin at hpin
  have HPIN := Lib.hid hpin
  have HB0 := Lib.hid (show Below w.heap.size w (w.alloc (.cells #[.string ⟨#[103]⟩, .string ⟨#[97]⟩, .string ⟨#[49]⟩] 23)) from (Below.refl _ _).alloc (Nat.le_refl _) _)
  have h0 : (w.alloc (.cells #[.string ⟨#[103]⟩, .string ⟨#[97]⟩, .string ⟨#[49]⟩] 23)).cell? ⟨w.heap.size, 0, none⟩ = some (.string ⟨#[103]⟩) := by simp [go_sem]
  have h1 : (w.alloc (.cells #[.string ⟨#[103]⟩, .string ⟨#[97]⟩, .string ⟨#[49]⟩] 23)).cell? ⟨w.heap.size, 1, none⟩ = some (.string ⟨#[97]⟩) := by simp [go_sem]
  have h2 : (w.alloc (.cells #[.string ⟨#[103]⟩, .string ⟨#[97]⟩, .string ⟨#[49]⟩] 23)).cell? ⟨w.heap.size, 2, none⟩ = some (.string ⟨#[49]⟩) := by simp [go_sem]
  clear hpin
  go_enter Try.func9, Try.ntmps9
  go_upto_region 2 with fail
  generalize w.alloc (.cells #[.string ⟨#[103]⟩, .string ⟨#[97]⟩, .string ⟨#[49]⟩] 23) = w1 at HB0 h0 h1 h2 ⊢
  generalize hVe : w.heap.size = V at h0 h1 h2 ⊢
  clear hVe
  have HG := Lib.hid (fun (w' : World) (hb : Below w1.heap.size w1 w') => keepG ⟨h0, h1, h2, Below.refl w1.heap.size w1⟩ hb)
  go_cut [2] from 6 to 10 (fun t wx => LkP exA V w1 t wx)
  case first =>
    refine wp_region_held_drew (S := (fun w' => w'.cell? ⟨V, 0, none⟩ = some (.string ⟨#[103]⟩) ∧ w'.cell? ⟨V, 1, none⟩ = some (.string ⟨#[97]⟩) ∧ w'.cell? ⟨V, 2, none⟩ = some (.string ⟨#[49]⟩) ∧ Below w1.heap.size w1 w')) (by kernel_rfl) (by (try dsimp only); exact keepGd ⟨h0, h1, h2, Below.refl _ _⟩) (fun hHeld => ?_)
    generalize w1.drew = wd at hHeld ⊢
    refine wpAnyH_take (i := 0) (v := ?_) (by (simp only [List.getElem?_toArray, List.getElem?_cons_succ, List.getElem?_cons_zero]; rfl)) (by kernel_rfl) (by kernel_rfl) (by kernel_rfl) (by intro _ _ _ h; exact h) (Or.inl ⟨by rfl, ?_⟩) (by assumption) ?_
    rotate_left
    · (intro w hSw; (try dsimp only at hSw); go_simp; try (with_reducible rfl))
    simp only [Act.put, List.setIfInBounds_toArray, List.set_cons_zero, List.set_cons_succ]
    refine wpAnyH_ready (rs := [1, 4]) (by kernel_rfl) (by simp) ?_
    refine AllReadyH.cons (by (simp only [List.getElem?_toArray, List.getElem?_cons_succ, List.getElem?_cons_zero]; rfl)) (fun K hK => ?_) (AllReadyH.cons (by (simp only [List.getElem?_toArray, List.getElem?_cons_succ, List.getElem?_cons_zero]; rfl)) (fun K hK => ?_) AllReadyH.nil)
    · go_simp
      (go_at_call 22; (with_reducible refine (HPIN.out _ _ _).mono ?_); rintro e wk1 ⟨rfl, hbx⟩; go_wp2_with fail)
      refine hK.out _ _ (keepG hHeld hbx) (fun hHeld => ?_)
      clear hK K hbx
      try simp only [Act.put, List.setIfInBounds_toArray, List.set_cons_zero, List.set_cons_succ]
      refine wpAnyH_ready (rs := [2, 4]) (by kernel_rfl) (by simp) ?_
      refine AllReadyH.cons (by (simp only [List.getElem?_toArray, List.getElem?_cons_succ, List.getElem?_cons_zero]; rfl)) (fun K hK => ?_) (AllReadyH.cons (by (simp only [List.getElem?_toArray, List.getElem?_cons_succ, List.getElem?_cons_zero]; rfl)) (fun K hK => ?_) AllReadyH.nil)
      · go_simp
        have hX := heap_alloc_new wk1 (.cells #[.string ⟨#[103]⟩, .string ⟨#[98]⟩, .string ⟨#[106, 97, 114]⟩, .string ⟨#[]⟩, .string ⟨#[49]⟩, .int .i64 1] 48)
        have hbn := hHeld.2.2.2.alloc hHeld.2.2.2.size (.cells #[.string ⟨#[103]⟩, .string ⟨#[98]⟩, .string ⟨#[106, 97, 114]⟩, .string ⟨#[]⟩, .string ⟨#[49]⟩, .int .i64 1] 48)
        generalize wk1.alloc (.cells #[.string ⟨#[103]⟩, .string ⟨#[98]⟩, .string ⟨#[106, 97, 114]⟩, .string ⟨#[]⟩, .string ⟨#[49]⟩, .int .i64 1] 48) = wk2 at hX hbn ⊢
        generalize wk1.heap.size = X at hX ⊢
        refine hK.out _ _ (HG.out _ hbn) (fun hHeld => ?_)
        clear hK K hbn
        try simp only [Act.put, List.setIfInBounds_toArray, List.set_cons_zero, List.set_cons_succ]
        refine wpAnyH_take (i := 3) (v := ?_) (by (simp only [List.getElem?_toArray, List.getElem?_cons_succ, List.getElem?_cons_zero]; rfl)) (by kernel_rfl) (by kernel_rfl) (by kernel_rfl) (by intro _ _ _ h; exact h) (Or.inl ⟨by rfl, ?_⟩) (by assumption) ?_
        rotate_left
        · (intro w hSw; (try dsimp only at hSw); go_simp; try (with_reducible rfl))
        simp only [Act.put, List.setIfInBounds_toArray, List.set_cons_zero, List.set_cons_succ]
        refine wpAnyH_ready (rs := [4]) (by kernel_rfl) (by simp) ?_
        refine AllReadyH.cons (by (simp only [List.getElem?_toArray, List.getElem?_cons_succ, List.getElem?_cons_zero]; rfl)) (fun K hK => ?_) AllReadyH.nil
        go_simp
        have hY := heap_alloc_new wk2 (.cells #[.string ⟨#[]⟩, .string ⟨#[]⟩, .string ⟨#[]⟩, .slice none 0 0] 26)
        have hYge : w1.heap.size ≤ wk2.heap.size := hHeld.2.2.2.size
        have hX := (Below.heap_alloc wk2 (.cells #[.string ⟨#[]⟩, .string ⟨#[]⟩, .string ⟨#[]⟩, .slice none 0 0] 26) _ (Array.getElem?_eq_some_iff.1 hX).1).trans hX
        have hbn := hHeld.2.2.2.alloc hHeld.2.2.2.size (.cells #[.string ⟨#[]⟩, .string ⟨#[]⟩, .string ⟨#[]⟩, .slice none 0 0] 26)
        generalize wk2.alloc (.cells #[.string ⟨#[]⟩, .string ⟨#[]⟩, .string ⟨#[]⟩, .slice none 0 0] 26) = wk3 at hY hbn hX ⊢
        generalize wk2.heap.size = Y at hY hYge ⊢
        refine hK.out _ _ (HG.out _ hbn) (fun hHeld => ?_)
        clear hK K hbn
        try simp only [Act.put, List.setIfInBounds_toArray, List.set_cons_zero, List.set_cons_succ]
        refine wpAnyH_ready (rs := [5]) (by kernel_rfl) (by simp) ?_
        refine AllReadyH.cons (by (simp only [List.getElem?_toArray, List.getElem?_cons_succ, List.getElem?_cons_zero]; rfl)) (fun K hK => ?_) AllReadyH.nil
        refine wp_store_row 26 _ _ rfl Y #[.string ⟨#[103]⟩, .string ⟨#[97]⟩, .string ⟨#[49]⟩, .slice (some ⟨X, 0, none⟩) 1 1] rfl rfl 26 _ hY (by kernel_rfl) rfl (by simp [Value.oneCell']) ?_
        have hne : ∀ k, (Value.slice (some ⟨X, 0, none⟩) 1 1).ownBlock = some k → k ≠ Y := fun k hk e => by
          cases hk
          subst e
          rw [hX] at hY
          cases hY
        have hrd : RdN (wk3.setRow Y #[.string ⟨#[103]⟩, .string ⟨#[97]⟩, .string ⟨#[49]⟩, .slice (some ⟨X, 0, none⟩) 1 1]) (.slice (some ⟨X, 0, none⟩) 1 1) exA := (RdN.lit (l := exA) hX (by decide)).farL hne
        have hlk : LkIn (wk3.setRow Y #[.string ⟨#[103]⟩, .string ⟨#[97]⟩, .string ⟨#[49]⟩, .slice (some ⟨X, 0, none⟩) 1 1]) Y ⟨#[103]⟩ ⟨#[97]⟩ ⟨#[49]⟩ (.slice (some ⟨X, 0, none⟩) 1 1) := LkIn.of_row (setRow_heap wk3 Y _ _ _ _ hY)
        have hSf := HG.out _ (below_setRow (cs := #[.string ⟨#[103]⟩, .string ⟨#[97]⟩, .string ⟨#[49]⟩, .slice (some ⟨X, 0, none⟩) 1 1]) hHeld.2.2.2 hYge)
        refine hK.out _ _ hSf (fun hHeld => ?_)
        clear hK K
        try simp only [Act.put, List.setIfInBounds_toArray, List.set_cons_zero, List.set_cons_succ]
        refine wpAnyH_done (by kernel_rfl) ?_ _
        have HFIN := Lib.hid (show LkP exA V w1 (.pointer (some ⟨Y, 0, none⟩)) (wk3.setRow Y #[.string ⟨#[103]⟩, .string ⟨#[97]⟩, .string ⟨#[49]⟩, .slice (some ⟨X, 0, none⟩) 1 1]) from ⟨Y, _, rfl, hlk, hrd, hSf⟩)
        clear hSf hlk hrd hne hX hY hYge hHeld
        go_wp2_with fail
        go_meet
        exact HFIN.out
      · go_simp
        have hY := heap_alloc_new wk1 (.cells #[.string ⟨#[]⟩, .string ⟨#[]⟩, .string ⟨#[]⟩, .slice none 0 0] 26)
        have hYge : w1.heap.size ≤ wk1.heap.size := hHeld.2.2.2.size
        have hbn := hHeld.2.2.2.alloc hHeld.2.2.2.size (.cells #[.string ⟨#[]⟩, .string ⟨#[]⟩, .string ⟨#[]⟩, .slice none 0 0] 26)
        generalize wk1.alloc (.cells #[.string ⟨#[]⟩, .string ⟨#[]⟩, .string ⟨#[]⟩, .slice none 0 0] 26) = wk2 at hY hbn ⊢
        generalize wk1.heap.size = Y at hY hYge ⊢
        refine hK.out _ _ (HG.out _ hbn) (fun hHeld => ?_)
        clear hK K hbn
        try simp only [Act.put, List.setIfInBounds_toArray, List.set_cons_zero, List.set_cons_succ]
        refine wpAnyH_ready (rs := [2]) (by kernel_rfl) (by simp) ?_
        refine AllReadyH.cons (by (simp only [List.getElem?_toArray, List.getElem?_cons_succ, List.getElem?_cons_zero]; rfl)) (fun K hK => ?_) AllReadyH.nil
        go_simp
        have hX := heap_alloc_new wk2 (.cells #[.string ⟨#[103]⟩, .string ⟨#[98]⟩, .string ⟨#[106, 97, 114]⟩, .string ⟨#[]⟩, .string ⟨#[49]⟩, .int .i64 1] 48)
        have hY := (Below.heap_alloc wk2 (.cells #[.string ⟨#[103]⟩, .string ⟨#[98]⟩, .string ⟨#[106, 97, 114]⟩, .string ⟨#[]⟩, .string ⟨#[49]⟩, .int .i64 1] 48) _ (Array.getElem?_eq_some_iff.1 hY).1).trans hY
        have hbn := hHeld.2.2.2.alloc hHeld.2.2.2.size (.cells #[.string ⟨#[103]⟩, .string ⟨#[98]⟩, .string ⟨#[106, 97, 114]⟩, .string ⟨#[]⟩, .string ⟨#[49]⟩, .int .i64 1] 48)
        generalize wk2.alloc (.cells #[.string ⟨#[103]⟩, .string ⟨#[98]⟩, .string ⟨#[106, 97, 114]⟩, .string ⟨#[]⟩, .string ⟨#[49]⟩, .int .i64 1] 48) = wk3 at hX hbn hY ⊢
        generalize wk2.heap.size = X at hX ⊢
        refine hK.out _ _ (HG.out _ hbn) (fun hHeld => ?_)
        clear hK K hbn
        try simp only [Act.put, List.setIfInBounds_toArray, List.set_cons_zero, List.set_cons_succ]
        refine wpAnyH_take (i := 3) (v := ?_) (by (simp only [List.getElem?_toArray, List.getElem?_cons_succ, List.getElem?_cons_zero]; rfl)) (by kernel_rfl) (by kernel_rfl) (by kernel_rfl) (by intro _ _ _ h; exact h) (Or.inl ⟨by rfl, ?_⟩) (by assumption) ?_
        rotate_left
        · (intro w hSw; (try dsimp only at hSw); go_simp; try (with_reducible rfl))
        simp only [Act.put, List.setIfInBounds_toArray, List.set_cons_zero, List.set_cons_succ]
        refine wpAnyH_ready (rs := [5]) (by kernel_rfl) (by simp) ?_
        refine AllReadyH.cons (by (simp only [List.getElem?_toArray, List.getElem?_cons_succ, List.getElem?_cons_zero]; rfl)) (fun K hK => ?_) AllReadyH.nil
        refine wp_store_row 26 _ _ rfl Y #[.string ⟨#[103]⟩, .string ⟨#[97]⟩, .string ⟨#[49]⟩, .slice (some ⟨X, 0, none⟩) 1 1] rfl rfl 26 _ hY (by kernel_rfl) rfl (by simp [Value.oneCell']) ?_
        have hne : ∀ k, (Value.slice (some ⟨X, 0, none⟩) 1 1).ownBlock = some k → k ≠ Y := fun k hk e => by
          cases hk
          subst e
          rw [hX] at hY
          cases hY
        have hrd : RdN (wk3.setRow Y #[.string ⟨#[103]⟩, .string ⟨#[97]⟩, .string ⟨#[49]⟩, .slice (some ⟨X, 0, none⟩) 1 1]) (.slice (some ⟨X, 0, none⟩) 1 1) exA := (RdN.lit (l := exA) hX (by decide)).farL hne
        have hlk : LkIn (wk3.setRow Y #[.string ⟨#[103]⟩, .string ⟨#[97]⟩, .string ⟨#[49]⟩, .slice (some ⟨X, 0, none⟩) 1 1]) Y ⟨#[103]⟩ ⟨#[97]⟩ ⟨#[49]⟩ (.slice (some ⟨X, 0, none⟩) 1 1) := LkIn.of_row (setRow_heap wk3 Y _ _ _ _ hY)
        have hSf := HG.out _ (below_setRow (cs := #[.string ⟨#[103]⟩, .string ⟨#[97]⟩, .string ⟨#[49]⟩, .slice (some ⟨X, 0, none⟩) 1 1]) hHeld.2.2.2 hYge)
        refine hK.out _ _ hSf (fun hHeld => ?_)
        clear hK K
        try simp only [Act.put, List.setIfInBounds_toArray, List.set_cons_zero, List.set_cons_succ]
        refine wpAnyH_done (by kernel_rfl) ?_ _
        have HFIN := Lib.hid (show LkP exA V w1 (.pointer (some ⟨Y, 0, none⟩)) (wk3.setRow Y #[.string ⟨#[103]⟩, .string ⟨#[97]⟩, .string ⟨#[49]⟩, .slice (some ⟨X, 0, none⟩) 1 1]) from ⟨Y, _, rfl, hlk, hrd, hSf⟩)
        clear hSf hlk hrd hne hX hY hYge hHeld
        go_wp2_with fail
        go_meet
        exact HFIN.out
    · go_simp
      have hY := heap_alloc_new wd (.cells #[.string ⟨#[]⟩, .string ⟨#[]⟩, .string ⟨#[]⟩, .slice none 0 0] 26)
      have hYge : w1.heap.size ≤ wd.heap.size := hHeld.2.2.2.size
      have hbn := hHeld.2.2.2.alloc hHeld.2.2.2.size (.cells #[.string ⟨#[]⟩, .string ⟨#[]⟩, .string ⟨#[]⟩, .slice none 0 0] 26)
      generalize wd.alloc (.cells #[.string ⟨#[]⟩, .string ⟨#[]⟩, .string ⟨#[]⟩, .slice none 0 0] 26) = wk1 at hY hbn ⊢
      generalize wd.heap.size = Y at hY hYge ⊢
      refine hK.out _ _ (HG.out _ hbn) (fun hHeld => ?_)
      clear hK K hbn
      try simp only [Act.put, List.setIfInBounds_toArray, List.set_cons_zero, List.set_cons_succ]
      refine wpAnyH_ready (rs := [1]) (by kernel_rfl) (by simp) ?_
      refine AllReadyH.cons (by (simp only [List.getElem?_toArray, List.getElem?_cons_succ, List.getElem?_cons_zero]; rfl)) (fun K hK => ?_) AllReadyH.nil
      go_simp
      (go_at_call 22; (with_reducible refine (HPIN.out _ _ _).mono ?_); rintro e wk2 ⟨rfl, hbx⟩; go_wp2_with fail)
      have hY := (hbx.block Y (Array.getElem?_eq_some_iff.1 hY).1).trans hY
      refine hK.out _ _ (keepG hHeld hbx) (fun hHeld => ?_)
      clear hK K hbx
      try simp only [Act.put, List.setIfInBounds_toArray, List.set_cons_zero, List.set_cons_succ]
      refine wpAnyH_ready (rs := [2]) (by kernel_rfl) (by simp) ?_
      refine AllReadyH.cons (by (simp only [List.getElem?_toArray, List.getElem?_cons_succ, List.getElem?_cons_zero]; rfl)) (fun K hK => ?_) AllReadyH.nil
      go_simp
      have hX := heap_alloc_new wk2 (.cells #[.string ⟨#[103]⟩, .string ⟨#[98]⟩, .string ⟨#[106, 97, 114]⟩, .string ⟨#[]⟩, .string ⟨#[49]⟩, .int .i64 1] 48)
      have hY := (Below.heap_alloc wk2 (.cells #[.string ⟨#[103]⟩, .string ⟨#[98]⟩, .string ⟨#[106, 97, 114]⟩, .string ⟨#[]⟩, .string ⟨#[49]⟩, .int .i64 1] 48) _ (Array.getElem?_eq_some_iff.1 hY).1).trans hY
      have hbn := hHeld.2.2.2.alloc hHeld.2.2.2.size (.cells #[.string ⟨#[103]⟩, .string ⟨#[98]⟩, .string ⟨#[106, 97, 114]⟩, .string ⟨#[]⟩, .string ⟨#[49]⟩, .int .i64 1] 48)
      generalize wk2.alloc (.cells #[.string ⟨#[103]⟩, .string ⟨#[98]⟩, .string ⟨#[106, 97, 114]⟩, .string ⟨#[]⟩, .string ⟨#[49]⟩, .int .i64 1] 48) = wk3 at hX hbn hY ⊢
      generalize wk2.heap.size = X at hX ⊢
      refine hK.out _ _ (HG.out _ hbn) (fun hHeld => ?_)
      clear hK K hbn
      try simp only [Act.put, List.setIfInBounds_toArray, List.set_cons_zero, List.set_cons_succ]
      refine wpAnyH_take (i := 3) (v := ?_) (by (simp only [List.getElem?_toArray, List.getElem?_cons_succ, List.getElem?_cons_zero]; rfl)) (by kernel_rfl) (by kernel_rfl) (by kernel_rfl) (by intro _ _ _ h; exact h) (Or.inl ⟨by rfl, ?_⟩) (by assumption) ?_
      rotate_left
      · (intro w hSw; (try dsimp only at hSw); go_simp; try (with_reducible rfl))
      simp only [Act.put, List.setIfInBounds_toArray, List.set_cons_zero, List.set_cons_succ]
      refine wpAnyH_ready (rs := [5]) (by kernel_rfl) (by simp) ?_
      refine AllReadyH.cons (by (simp only [List.getElem?_toArray, List.getElem?_cons_succ, List.getElem?_cons_zero]; rfl)) (fun K hK => ?_) AllReadyH.nil
      refine wp_store_row 26 _ _ rfl Y #[.string ⟨#[103]⟩, .string ⟨#[97]⟩, .string ⟨#[49]⟩, .slice (some ⟨X, 0, none⟩) 1 1] rfl rfl 26 _ hY (by kernel_rfl) rfl (by simp [Value.oneCell']) ?_
      have hne : ∀ k, (Value.slice (some ⟨X, 0, none⟩) 1 1).ownBlock = some k → k ≠ Y := fun k hk e => by
        cases hk
        subst e
        rw [hX] at hY
        cases hY
      have hrd : RdN (wk3.setRow Y #[.string ⟨#[103]⟩, .string ⟨#[97]⟩, .string ⟨#[49]⟩, .slice (some ⟨X, 0, none⟩) 1 1]) (.slice (some ⟨X, 0, none⟩) 1 1) exA := (RdN.lit (l := exA) hX (by decide)).farL hne
      have hlk : LkIn (wk3.setRow Y #[.string ⟨#[103]⟩, .string ⟨#[97]⟩, .string ⟨#[49]⟩, .slice (some ⟨X, 0, none⟩) 1 1]) Y ⟨#[103]⟩ ⟨#[97]⟩ ⟨#[49]⟩ (.slice (some ⟨X, 0, none⟩) 1 1) := LkIn.of_row (setRow_heap wk3 Y _ _ _ _ hY)
      have hSf := HG.out _ (below_setRow (cs := #[.string ⟨#[103]⟩, .string ⟨#[97]⟩, .string ⟨#[49]⟩, .slice (some ⟨X, 0, none⟩) 1 1]) hHeld.2.2.2 hYge)
      refine hK.out _ _ hSf (fun hHeld => ?_)
      clear hK K
      try simp only [Act.put, List.setIfInBounds_toArray, List.set_cons_zero, List.set_cons_succ]
      refine wpAnyH_done (by kernel_rfl) ?_ _
      have HFIN := Lib.hid (show LkP exA V w1 (.pointer (some ⟨Y, 0, none⟩)) (wk3.setRow Y #[.string ⟨#[103]⟩, .string ⟨#[97]⟩, .string ⟨#[49]⟩, .slice (some ⟨X, 0, none⟩) 1 1]) from ⟨Y, _, rfl, hlk, hrd, hSf⟩)
      clear hSf hlk hrd hne hX hY hYge hHeld
      go_wp2_with fail
      go_meet
      exact HFIN.out
  case rest =>
    clear h0 h1 h2 HG
    obtain ⟨YA, pvA, rfl, hlkA, hrdA, g0, g1, g2, hbA⟩ := hcut
    have HW1 := Lib.hid (HB0.out.trans (hbA.mono HB0.out.size))
    have HLA := Lib.hid hlkA
    have HRA := Lib.hid hrdA
    clear hlkA hrdA hbA
    have h0 := g0
    have h1 := g1
    have h2 := g2
    have HG := Lib.hid (fun (w' : World) (hb : Below wc.heap.size wc w') => keepG ⟨h0, h1, h2, Below.refl wc.heap.size wc⟩ hb)
    clear g0 g1 g2
    go_upto_region 3 with fail
    go_cut [3] from 10 to 15 (fun t wx => LkP exB V wc t wx)
    case first =>
      refine wp_region_held_drew (S := (fun w' => w'.cell? ⟨V, 0, none⟩ = some (.string ⟨#[103]⟩) ∧ w'.cell? ⟨V, 1, none⟩ = some (.string ⟨#[97]⟩) ∧ w'.cell? ⟨V, 2, none⟩ = some (.string ⟨#[49]⟩) ∧ Below wc.heap.size wc w')) (by kernel_rfl) (by (try dsimp only); exact keepGd ⟨h0, h1, h2, Below.refl _ _⟩) (fun hHeld => ?_)
      generalize wc.drew = wd at hHeld ⊢
      refine wpAnyH_take (i := 0) (v := ?_) (by (simp only [List.getElem?_toArray, List.getElem?_cons_succ, List.getElem?_cons_zero]; rfl)) (by kernel_rfl) (by kernel_rfl) (by kernel_rfl) (by intro _ _ _ h; exact h) (Or.inl ⟨by rfl, ?_⟩) (by assumption) ?_
      rotate_left
      · (intro w hSw; (try dsimp only at hSw); go_simp; try (with_reducible rfl))
      simp only [Act.put, List.setIfInBounds_toArray, List.set_cons_zero, List.set_cons_succ]
      refine wpAnyH_ready (rs := [1, 5]) (by kernel_rfl) (by simp) ?_
      refine AllReadyH.cons (by (simp only [List.getElem?_toArray, List.getElem?_cons_succ, List.getElem?_cons_zero]; rfl)) (fun K hK => ?_) (AllReadyH.cons (by (simp only [List.getElem?_toArray, List.getElem?_cons_succ, List.getElem?_cons_zero]; rfl)) (fun K hK => ?_) AllReadyH.nil)
      · go_simp
        (go_at_call 22; (with_reducible refine (HPIN.out _ _ _).mono ?_); rintro e wk1 ⟨rfl, hbx⟩; go_wp2_with fail)
        refine hK.out _ _ (keepG hHeld hbx) (fun hHeld => ?_)
        clear hK K hbx
        try simp only [Act.put, List.setIfInBounds_toArray, List.set_cons_zero, List.set_cons_succ]
        refine wpAnyH_ready (rs := [2, 5]) (by kernel_rfl) (by simp) ?_
        refine AllReadyH.cons (by (simp only [List.getElem?_toArray, List.getElem?_cons_succ, List.getElem?_cons_zero]; rfl)) (fun K hK => ?_) (AllReadyH.cons (by (simp only [List.getElem?_toArray, List.getElem?_cons_succ, List.getElem?_cons_zero]; rfl)) (fun K hK => ?_) AllReadyH.nil)
        · go_simp
          (go_at_call 22; (with_reducible refine (HPIN.out _ _ _).mono ?_); rintro e wk2 ⟨rfl, hbx⟩; go_wp2_with fail)
          refine hK.out _ _ (keepG hHeld hbx) (fun hHeld => ?_)
          clear hK K hbx
          try simp only [Act.put, List.setIfInBounds_toArray, List.set_cons_zero, List.set_cons_succ]
          refine wpAnyH_ready (rs := [3, 5]) (by kernel_rfl) (by simp) ?_
          refine AllReadyH.cons (by (simp only [List.getElem?_toArray, List.getElem?_cons_succ, List.getElem?_cons_zero]; rfl)) (fun K hK => ?_) (AllReadyH.cons (by (simp only [List.getElem?_toArray, List.getElem?_cons_succ, List.getElem?_cons_zero]; rfl)) (fun K hK => ?_) AllReadyH.nil)
          · go_simp
            have hX := heap_alloc_new wk2 (.cells #[.string ⟨#[103]⟩, .string ⟨#[98]⟩, .string ⟨#[106, 97, 114]⟩, .string ⟨#[]⟩, .string ⟨#[50]⟩, .int .i64 1, .string ⟨#[103]⟩, .string ⟨#[99]⟩, .string ⟨#[106, 97, 114]⟩, .string ⟨#[]⟩, .string ⟨#[49]⟩, .int .i64 1] 48)
            have hbn := hHeld.2.2.2.alloc hHeld.2.2.2.size (.cells #[.string ⟨#[103]⟩, .string ⟨#[98]⟩, .string ⟨#[106, 97, 114]⟩, .string ⟨#[]⟩, .string ⟨#[50]⟩, .int .i64 1, .string ⟨#[103]⟩, .string ⟨#[99]⟩, .string ⟨#[106, 97, 114]⟩, .string ⟨#[]⟩, .string ⟨#[49]⟩, .int .i64 1] 48)
            generalize wk2.alloc (.cells #[.string ⟨#[103]⟩, .string ⟨#[98]⟩, .string ⟨#[106, 97, 114]⟩, .string ⟨#[]⟩, .string ⟨#[50]⟩, .int .i64 1, .string ⟨#[103]⟩, .string ⟨#[99]⟩, .string ⟨#[106, 97, 114]⟩, .string ⟨#[]⟩, .string ⟨#[49]⟩, .int .i64 1] 48) = wk3 at hX hbn ⊢
            generalize wk2.heap.size = X at hX ⊢
            refine hK.out _ _ (HG.out _ hbn) (fun hHeld => ?_)
            clear hK K hbn
            try simp only [Act.put, List.setIfInBounds_toArray, List.set_cons_zero, List.set_cons_succ]
            refine wpAnyH_take (i := 4) (v := ?_) (by (simp only [List.getElem?_toArray, List.getElem?_cons_succ, List.getElem?_cons_zero]; rfl)) (by kernel_rfl) (by kernel_rfl) (by kernel_rfl) (by intro _ _ _ h; exact h) (Or.inl ⟨by rfl, ?_⟩) (by assumption) ?_
            rotate_left
            · (intro w hSw; (try dsimp only at hSw); go_simp; try (with_reducible rfl))
            simp only [Act.put, List.setIfInBounds_toArray, List.set_cons_zero, List.set_cons_succ]
            refine wpAnyH_ready (rs := [5]) (by kernel_rfl) (by simp) ?_
            refine AllReadyH.cons (by (simp only [List.getElem?_toArray, List.getElem?_cons_succ, List.getElem?_cons_zero]; rfl)) (fun K hK => ?_) AllReadyH.nil
            go_simp
            have hY := heap_alloc_new wk3 (.cells #[.string ⟨#[]⟩, .string ⟨#[]⟩, .string ⟨#[]⟩, .slice none 0 0] 26)
            have hYge : wc.heap.size ≤ wk3.heap.size := hHeld.2.2.2.size
            have hX := (Below.heap_alloc wk3 (.cells #[.string ⟨#[]⟩, .string ⟨#[]⟩, .string ⟨#[]⟩, .slice none 0 0] 26) _ (Array.getElem?_eq_some_iff.1 hX).1).trans hX
            have hbn := hHeld.2.2.2.alloc hHeld.2.2.2.size (.cells #[.string ⟨#[]⟩, .string ⟨#[]⟩, .string ⟨#[]⟩, .slice none 0 0] 26)
            generalize wk3.alloc (.cells #[.string ⟨#[]⟩, .string ⟨#[]⟩, .string ⟨#[]⟩, .slice none 0 0] 26) = wk4 at hY hbn hX ⊢
            generalize wk3.heap.size = Y at hY hYge ⊢
            refine hK.out _ _ (HG.out _ hbn) (fun hHeld => ?_)
            clear hK K hbn
            try simp only [Act.put, List.setIfInBounds_toArray, List.set_cons_zero, List.set_cons_succ]
            refine wpAnyH_ready (rs := [6]) (by kernel_rfl) (by simp) ?_
            refine AllReadyH.cons (by (simp only [List.getElem?_toArray, List.getElem?_cons_succ, List.getElem?_cons_zero]; rfl)) (fun K hK => ?_) AllReadyH.nil
            refine wp_store_row 26 _ _ rfl Y #[.string ⟨#[103]⟩, .string ⟨#[97]⟩, .string ⟨#[49]⟩, .slice (some ⟨X, 0, none⟩) 2 2] rfl rfl 26 _ hY (by kernel_rfl) rfl (by simp [Value.oneCell']) ?_
            have hne : ∀ k, (Value.slice (some ⟨X, 0, none⟩) 2 2).ownBlock = some k → k ≠ Y := fun k hk e => by
              cases hk
              subst e
              rw [hX] at hY
              cases hY
            have hrd : RdN (wk4.setRow Y #[.string ⟨#[103]⟩, .string ⟨#[97]⟩, .string ⟨#[49]⟩, .slice (some ⟨X, 0, none⟩) 2 2]) (.slice (some ⟨X, 0, none⟩) 2 2) exB := (RdN.lit (l := exB) hX (by decide)).farL hne
            have hlk : LkIn (wk4.setRow Y #[.string ⟨#[103]⟩, .string ⟨#[97]⟩, .string ⟨#[49]⟩, .slice (some ⟨X, 0, none⟩) 2 2]) Y ⟨#[103]⟩ ⟨#[97]⟩ ⟨#[49]⟩ (.slice (some ⟨X, 0, none⟩) 2 2) := LkIn.of_row (setRow_heap wk4 Y _ _ _ _ hY)
            have hSf := HG.out _ (below_setRow (cs := #[.string ⟨#[103]⟩, .string ⟨#[97]⟩, .string ⟨#[49]⟩, .slice (some ⟨X, 0, none⟩) 2 2]) hHeld.2.2.2 hYge)
            refine hK.out _ _ hSf (fun hHeld => ?_)
            clear hK K
            try simp only [Act.put, List.setIfInBounds_toArray, List.set_cons_zero, List.set_cons_succ]
            refine wpAnyH_done (by kernel_rfl) ?_ _
            have HFIN := Lib.hid (show LkP exB V wc (.pointer (some ⟨Y, 0, none⟩)) (wk4.setRow Y #[.string ⟨#[103]⟩, .string ⟨#[97]⟩, .string ⟨#[49]⟩, .slice (some ⟨X, 0, none⟩) 2 2]) from ⟨Y, _, rfl, hlk, hrd, hSf⟩)
            clear hSf hlk hrd hne hX hY hYge hHeld
            go_wp2_with fail
            go_meet
            exact HFIN.out
          · go_simp
            have hY := heap_alloc_new wk2 (.cells #[.string ⟨#[]⟩, .string ⟨#[]⟩, .string ⟨#[]⟩, .slice none 0 0] 26)
            have hYge : wc.heap.size ≤ wk2.heap.size := hHeld.2.2.2.size
            have hbn := hHeld.2.2.2.alloc hHeld.2.2.2.size (.cells #[.string ⟨#[]⟩, .string ⟨#[]⟩, .string ⟨#[]⟩, .slice none 0 0] 26)
            generalize wk2.alloc (.cells #[.string ⟨#[]⟩, .string ⟨#[]⟩, .string ⟨#[]⟩, .slice none 0 0] 26) = wk3 at hY hbn ⊢
            generalize wk2.heap.size = Y at hY hYge ⊢
            refine hK.out _ _ (HG.out _ hbn) (fun hHeld => ?_)
            clear hK K hbn
            try simp only [Act.put, List.setIfInBounds_toArray, List.set_cons_zero, List.set_cons_succ]
            refine wpAnyH_ready (rs := [3]) (by kernel_rfl) (by simp) ?_
            refine AllReadyH.cons (by (simp only [List.getElem?_toArray, List.getElem?_cons_succ, List.getElem?_cons_zero]; rfl)) (fun K hK => ?_) AllReadyH.nil
            go_simp
            have hX := heap_alloc_new wk3 (.cells #[.string ⟨#[103]⟩, .string ⟨#[98]⟩, .string ⟨#[106, 97, 114]⟩, .string ⟨#[]⟩, .string ⟨#[50]⟩, .int .i64 1, .string ⟨#[103]⟩, .string ⟨#[99]⟩, .string ⟨#[106, 97, 114]⟩, .string ⟨#[]⟩, .string ⟨#[49]⟩, .int .i64 1] 48)
            have hY := (Below.heap_alloc wk3 (.cells #[.string ⟨#[103]⟩, .string ⟨#[98]⟩, .string ⟨#[106, 97, 114]⟩, .string ⟨#[]⟩, .string ⟨#[50]⟩, .int .i64 1, .string ⟨#[103]⟩, .string ⟨#[99]⟩, .string ⟨#[106, 97, 114]⟩, .string ⟨#[]⟩, .string ⟨#[49]⟩, .int .i64 1] 48) _ (Array.getElem?_eq_some_iff.1 hY).1).trans hY
            have hbn := hHeld.2.2.2.alloc hHeld.2.2.2.size (.cells #[.string ⟨#[103]⟩, .string ⟨#[98]⟩, .string ⟨#[106, 97, 114]⟩, .string ⟨#[]⟩, .string ⟨#[50]⟩, .int .i64 1, .string ⟨#[103]⟩, .string ⟨#[99]⟩, .string ⟨#[106, 97, 114]⟩, .string ⟨#[]⟩, .string ⟨#[49]⟩, .int .i64 1] 48)
            generalize wk3.alloc (.cells #[.string ⟨#[103]⟩, .string ⟨#[98]⟩, .string ⟨#[106, 97, 114]⟩, .string ⟨#[]⟩, .string ⟨#[50]⟩, .int .i64 1, .string ⟨#[103]⟩, .string ⟨#[99]⟩, .string ⟨#[106, 97, 114]⟩, .string ⟨#[]⟩, .string ⟨#[49]⟩, .int .i64 1] 48) = wk4 at hX hbn hY ⊢
            generalize wk3.heap.size = X at hX ⊢
            refine hK.out _ _ (HG.out _ hbn) (fun hHeld => ?_)
            clear hK K hbn
            try simp only [Act.put, List.setIfInBounds_toArray, List.set_cons_zero, List.set_cons_succ]
            refine wpAnyH_take (i := 4) (v := ?_) (by (simp only [List.getElem?_toArray, List.getElem?_cons_succ, List.getElem?_cons_zero]; rfl)) (by kernel_rfl) (by kernel_rfl) (by kernel_rfl) (by intro _ _ _ h; exact h) (Or.inl ⟨by rfl, ?_⟩) (by assumption) ?_
            rotate_left
            · (intro w hSw; (try dsimp only at hSw); go_simp; try (with_reducible rfl))
            simp only [Act.put, List.setIfInBounds_toArray, List.set_cons_zero, List.set_cons_succ]
            refine wpAnyH_ready (rs := [6]) (by kernel_rfl) (by simp) ?_
            refine AllReadyH.cons (by (simp only [List.getElem?_toArray, List.getElem?_cons_succ, List.getElem?_cons_zero]; rfl)) (fun K hK => ?_) AllReadyH.nil
            refine wp_store_row 26 _ _ rfl Y #[.string ⟨#[103]⟩, .string ⟨#[97]⟩, .string ⟨#[49]⟩, .slice (some ⟨X, 0, none⟩) 2 2] rfl rfl 26 _ hY (by kernel_rfl) rfl (by simp [Value.oneCell']) ?_
            have hne : ∀ k, (Value.slice (some ⟨X, 0, none⟩) 2 2).ownBlock = some k → k ≠ Y := fun k hk e => by
              cases hk
              subst e
              rw [hX] at hY
              cases hY
            have hrd : RdN (wk4.setRow Y #[.string ⟨#[103]⟩, .string ⟨#[97]⟩, .string ⟨#[49]⟩, .slice (some ⟨X, 0, none⟩) 2 2]) (.slice (some ⟨X, 0, none⟩) 2 2) exB := (RdN.lit (l := exB) hX (by decide)).farL hne
            have hlk : LkIn (wk4.setRow Y #[.string ⟨#[103]⟩, .string ⟨#[97]⟩, .string ⟨#[49]⟩, .slice (some ⟨X, 0, none⟩) 2 2]) Y ⟨#[103]⟩ ⟨#[97]⟩ ⟨#[49]⟩ (.slice (some ⟨X, 0, none⟩) 2 2) := LkIn.of_row (setRow_heap wk4 Y _ _ _ _ hY)
            have hSf := HG.out _ (below_setRow (cs := #[.string ⟨#[103]⟩, .string ⟨#[97]⟩, .string ⟨#[49]⟩, .slice (some ⟨X, 0, none⟩) 2 2]) hHeld.2.2.2 hYge)
            refine hK.out _ _ hSf (fun hHeld => ?_)
            clear hK K
            try simp only [Act.put, List.setIfInBounds_toArray, List.set_cons_zero, List.set_cons_succ]
            refine wpAnyH_done (by kernel_rfl) ?_ _
            have HFIN := Lib.hid (show LkP exB V wc (.pointer (some ⟨Y, 0, none⟩)) (wk4.setRow Y #[.string ⟨#[103]⟩, .string ⟨#[97]⟩, .string ⟨#[49]⟩, .slice (some ⟨X, 0, none⟩) 2 2]) from ⟨Y, _, rfl, hlk, hrd, hSf⟩)
            clear hSf hlk hrd hne hX hY hYge hHeld
            go_wp2_with fail
            go_meet
            exact HFIN.out
        · go_simp
          have hY := heap_alloc_new wk1 (.cells #[.string ⟨#[]⟩, .string ⟨#[]⟩, .string ⟨#[]⟩, .slice none 0 0] 26)
          have hYge : wc.heap.size ≤ wk1.heap.size := hHeld.2.2.2.size
          have hbn := hHeld.2.2.2.alloc hHeld.2.2.2.size (.cells #[.string ⟨#[]⟩, .string ⟨#[]⟩, .string ⟨#[]⟩, .slice none 0 0] 26)
          generalize wk1.alloc (.cells #[.string ⟨#[]⟩, .string ⟨#[]⟩, .string ⟨#[]⟩, .slice none 0 0] 26) = wk2 at hY hbn ⊢
          generalize wk1.heap.size = Y at hY hYge ⊢
          refine hK.out _ _ (HG.out _ hbn) (fun hHeld => ?_)
          clear hK K hbn
          try simp only [Act.put, List.setIfInBounds_toArray, List.set_cons_zero, List.set_cons_succ]
          refine wpAnyH_ready (rs := [2]) (by kernel_rfl) (by simp) ?_
          refine AllReadyH.cons (by (simp only [List.getElem?_toArray, List.getElem?_cons_succ, List.getElem?_cons_zero]; rfl)) (fun K hK => ?_) AllReadyH.nil
          go_simp
          (go_at_call 22; (with_reducible refine (HPIN.out _ _ _).mono ?_); rintro e wk3 ⟨rfl, hbx⟩; go_wp2_with fail)
          have hY := (hbx.block Y (Array.getElem?_eq_some_iff.1 hY).1).trans hY
          refine hK.out _ _ (keepG hHeld hbx) (fun hHeld => ?_)
          clear hK K hbx
          try simp only [Act.put, List.setIfInBounds_toArray, List.set_cons_zero, List.set_cons_succ]
          refine wpAnyH_ready (rs := [3]) (by kernel_rfl) (by simp) ?_
          refine AllReadyH.cons (by (simp only [List.getElem?_toArray, List.getElem?_cons_succ, List.getElem?_cons_zero]; rfl)) (fun K hK => ?_) AllReadyH.nil
          go_simp
          have hX := heap_alloc_new wk3 (.cells #[.string ⟨#[103]⟩, .string ⟨#[98]⟩, .string ⟨#[106, 97, 114]⟩, .string ⟨#[]⟩, .string ⟨#[50]⟩, .int .i64 1, .string ⟨#[103]⟩, .string ⟨#[99]⟩, .string ⟨#[106, 97, 114]⟩, .string ⟨#[]⟩, .string ⟨#[49]⟩, .int .i64 1] 48)
          have hY := (Below.heap_alloc wk3 (.cells #[.string ⟨#[103]⟩, .string ⟨#[98]⟩, .string ⟨#[106, 97, 114]⟩, .string ⟨#[]⟩, .string ⟨#[50]⟩, .int .i64 1, .string ⟨#[103]⟩, .string ⟨#[99]⟩, .string ⟨#[106, 97, 114]⟩, .string ⟨#[]⟩, .string ⟨#[49]⟩, .int .i64 1] 48) _ (Array.getElem?_eq_some_iff.1 hY).1).trans hY
          have hbn := hHeld.2.2.2.alloc hHeld.2.2.2.size (.cells #[.string ⟨#[103]⟩, .string ⟨#[98]⟩, .string ⟨#[106, 97, 114]⟩, .string ⟨#[]⟩, .string ⟨#[50]⟩, .int .i64 1, .string ⟨#[103]⟩, .string ⟨#[99]⟩, .string ⟨#[106, 97, 114]⟩, .string ⟨#[]⟩, .string ⟨#[49]⟩, .int .i64 1] 48)
          generalize wk3.alloc (.cells #[.string ⟨#[103]⟩, .string ⟨#[98]⟩, .string ⟨#[106, 97, 114]⟩, .string ⟨#[]⟩, .string ⟨#[50]⟩, .int .i64 1, .string ⟨#[103]⟩, .string ⟨#[99]⟩, .string ⟨#[106, 97, 114]⟩, .string ⟨#[]⟩, .string ⟨#[49]⟩, .int .i64 1] 48) = wk4 at hX hbn hY ⊢
          generalize wk3.heap.size = X at hX ⊢
          refine hK.out _ _ (HG.out _ hbn) (fun hHeld => ?_)
          clear hK K hbn
          try simp only [Act.put, List.setIfInBounds_toArray, List.set_cons_zero, List.set_cons_succ]
          refine wpAnyH_take (i := 4) (v := ?_) (by (simp only [List.getElem?_toArray, List.getElem?_cons_succ, List.getElem?_cons_zero]; rfl)) (by kernel_rfl) (by kernel_rfl) (by kernel_rfl) (by intro _ _ _ h; exact h) (Or.inl ⟨by rfl, ?_⟩) (by assumption) ?_
          rotate_left
          · (intro w hSw; (try dsimp only at hSw); go_simp; try (with_reducible rfl))
          simp only [Act.put, List.setIfInBounds_toArray, List.set_cons_zero, List.set_cons_succ]
          refine wpAnyH_ready (rs := [6]) (by kernel_rfl) (by simp) ?_
          refine AllReadyH.cons (by (simp only [List.getElem?_toArray, List.getElem?_cons_succ, List.getElem?_cons_zero]; rfl)) (fun K hK => ?_) AllReadyH.nil
          refine wp_store_row 26 _ _ rfl Y #[.string ⟨#[103]⟩, .string ⟨#[97]⟩, .string ⟨#[49]⟩, .slice (some ⟨X, 0, none⟩) 2 2] rfl rfl 26 _ hY (by kernel_rfl) rfl (by simp [Value.oneCell']) ?_
          have hne : ∀ k, (Value.slice (some ⟨X, 0, none⟩) 2 2).ownBlock = some k → k ≠ Y := fun k hk e => by
            cases hk
            subst e
            rw [hX] at hY
            cases hY
          have hrd : RdN (wk4.setRow Y #[.string ⟨#[103]⟩, .string ⟨#[97]⟩, .string ⟨#[49]⟩, .slice (some ⟨X, 0, none⟩) 2 2]) (.slice (some ⟨X, 0, none⟩) 2 2) exB := (RdN.lit (l := exB) hX (by decide)).farL hne
          have hlk : LkIn (wk4.setRow Y #[.string ⟨#[103]⟩, .string ⟨#[97]⟩, .string ⟨#[49]⟩, .slice (some ⟨X, 0, none⟩) 2 2]) Y ⟨#[103]⟩ ⟨#[97]⟩ ⟨#[49]⟩ (.slice (some ⟨X, 0, none⟩) 2 2) := LkIn.of_row (setRow_heap wk4 Y _ _ _ _ hY)
          have hSf := HG.out _ (below_setRow (cs := #[.string ⟨#[103]⟩, .string ⟨#[97]⟩, .string ⟨#[49]⟩, .slice (some ⟨X, 0, none⟩) 2 2]) hHeld.2.2.2 hYge)
          refine hK.out _ _ hSf (fun hHeld => ?_)
          clear hK K
          try simp only [Act.put, List.setIfInBounds_toArray, List.set_cons_zero, List.set_cons_succ]
          refine wpAnyH_done (by kernel_rfl) ?_ _
          have HFIN := Lib.hid (show LkP exB V wc (.pointer (some ⟨Y, 0, none⟩)) (wk4.setRow Y #[.string ⟨#[103]⟩, .string ⟨#[97]⟩, .string ⟨#[49]⟩, .slice (some ⟨X, 0, none⟩) 2 2]) from ⟨Y, _, rfl, hlk, hrd, hSf⟩)
          clear hSf hlk hrd hne hX hY hYge hHeld
          go_wp2_with fail
          go_meet
          exact HFIN.out
      · go_simp
        have hY := heap_alloc_new wd (.cells #[.string ⟨#[]⟩, .string ⟨#[]⟩, .string ⟨#[]⟩, .slice none 0 0] 26)
        have hYge : wc.heap.size ≤ wd.heap.size := hHeld.2.2.2.size
        have hbn := hHeld.2.2.2.alloc hHeld.2.2.2.size (.cells #[.string ⟨#[]⟩, .string ⟨#[]⟩, .string ⟨#[]⟩, .slice none 0 0] 26)
        generalize wd.alloc (.cells #[.string ⟨#[]⟩, .string ⟨#[]⟩, .string ⟨#[]⟩, .slice none 0 0] 26) = wk1 at hY hbn ⊢
        generalize wd.heap.size = Y at hY hYge ⊢
        refine hK.out _ _ (HG.out _ hbn) (fun hHeld => ?_)
        clear hK K hbn
        try simp only [Act.put, List.setIfInBounds_toArray, List.set_cons_zero, List.set_cons_succ]
        refine wpAnyH_ready (rs := [1]) (by kernel_rfl) (by simp) ?_
        refine AllReadyH.cons (by (simp only [List.getElem?_toArray, List.getElem?_cons_succ, List.getElem?_cons_zero]; rfl)) (fun K hK => ?_) AllReadyH.nil
        go_simp
        (go_at_call 22; (with_reducible refine (HPIN.out _ _ _).mono ?_); rintro e wk2 ⟨rfl, hbx⟩; go_wp2_with fail)
        have hY := (hbx.block Y (Array.getElem?_eq_some_iff.1 hY).1).trans hY
        refine hK.out _ _ (keepG hHeld hbx) (fun hHeld => ?_)
        clear hK K hbx
        try simp only [Act.put, List.setIfInBounds_toArray, List.set_cons_zero, List.set_cons_succ]
        refine wpAnyH_ready (rs := [2]) (by kernel_rfl) (by simp) ?_
        refine AllReadyH.cons (by (simp only [List.getElem?_toArray, List.getElem?_cons_succ, List.getElem?_cons_zero]; rfl)) (fun K hK => ?_) AllReadyH.nil
        go_simp
        (go_at_call 22; (with_reducible refine (HPIN.out _ _ _).mono ?_); rintro e wk3 ⟨rfl, hbx⟩; go_wp2_with fail)
        have hY := (hbx.block Y (Array.getElem?_eq_some_iff.1 hY).1).trans hY
        refine hK.out _ _ (keepG hHeld hbx) (fun hHeld => ?_)
        clear hK K hbx
        try simp only [Act.put, List.setIfInBounds_toArray, List.set_cons_zero, List.set_cons_succ]
        refine wpAnyH_ready (rs := [3]) (by kernel_rfl) (by simp) ?_
        refine AllReadyH.cons (by (simp only [List.getElem?_toArray, List.getElem?_cons_succ, List.getElem?_cons_zero]; rfl)) (fun K hK => ?_) AllReadyH.nil
        go_simp
        have hX := heap_alloc_new wk3 (.cells #[.string ⟨#[103]⟩, .string ⟨#[98]⟩, .string ⟨#[106, 97, 114]⟩, .string ⟨#[]⟩, .string ⟨#[50]⟩, .int .i64 1, .string ⟨#[103]⟩, .string ⟨#[99]⟩, .string ⟨#[106, 97, 114]⟩, .string ⟨#[]⟩, .string ⟨#[49]⟩, .int .i64 1] 48)
        have hY := (Below.heap_alloc wk3 (.cells #[.string ⟨#[103]⟩, .string ⟨#[98]⟩, .string ⟨#[106, 97, 114]⟩, .string ⟨#[]⟩, .string ⟨#[50]⟩, .int .i64 1, .string ⟨#[103]⟩, .string ⟨#[99]⟩, .string ⟨#[106, 97, 114]⟩, .string ⟨#[]⟩, .string ⟨#[49]⟩, .int .i64 1] 48) _ (Array.getElem?_eq_some_iff.1 hY).1).trans hY
        have hbn := hHeld.2.2.2.alloc hHeld.2.2.2.size (.cells #[.string ⟨#[103]⟩, .string ⟨#[98]⟩, .string ⟨#[106, 97, 114]⟩, .string ⟨#[]⟩, .string ⟨#[50]⟩, .int .i64 1, .string ⟨#[103]⟩, .string ⟨#[99]⟩, .string ⟨#[106, 97, 114]⟩, .string ⟨#[]⟩, .string ⟨#[49]⟩, .int .i64 1] 48)
        generalize wk3.alloc (.cells #[.string ⟨#[103]⟩, .string ⟨#[98]⟩, .string ⟨#[106, 97, 114]⟩, .string ⟨#[]⟩, .string ⟨#[50]⟩, .int .i64 1, .string ⟨#[103]⟩, .string ⟨#[99]⟩, .string ⟨#[106, 97, 114]⟩, .string ⟨#[]⟩, .string ⟨#[49]⟩, .int .i64 1] 48) = wk4 at hX hbn hY ⊢
        generalize wk3.heap.size = X at hX ⊢
        refine hK.out _ _ (HG.out _ hbn) (fun hHeld => ?_)
        clear hK K hbn
        try simp only [Act.put, List.setIfInBounds_toArray, List.set_cons_zero, List.set_cons_succ]
        refine wpAnyH_take (i := 4) (v := ?_) (by (simp only [List.getElem?_toArray, List.getElem?_cons_succ, List.getElem?_cons_zero]; rfl)) (by kernel_rfl) (by kernel_rfl) (by kernel_rfl) (by intro _ _ _ h; exact h) (Or.inl ⟨by rfl, ?_⟩) (by assumption) ?_
        rotate_left
        · (intro w hSw; (try dsimp only at hSw); go_simp; try (with_reducible rfl))
        simp only [Act.put, List.setIfInBounds_toArray, List.set_cons_zero, List.set_cons_succ]
        refine wpAnyH_ready (rs := [6]) (by kernel_rfl) (by simp) ?_
        refine AllReadyH.cons (by (simp only [List.getElem?_toArray, List.getElem?_cons_succ, List.getElem?_cons_zero]; rfl)) (fun K hK => ?_) AllReadyH.nil
        refine wp_store_row 26 _ _ rfl Y #[.string ⟨#[103]⟩, .string ⟨#[97]⟩, .string ⟨#[49]⟩, .slice (some ⟨X, 0, none⟩) 2 2] rfl rfl 26 _ hY (by kernel_rfl) rfl (by simp [Value.oneCell']) ?_
        have hne : ∀ k, (Value.slice (some ⟨X, 0, none⟩) 2 2).ownBlock = some k → k ≠ Y := fun k hk e => by
          cases hk
          subst e
          rw [hX] at hY
          cases hY
        have hrd : RdN (wk4.setRow Y #[.string ⟨#[103]⟩, .string ⟨#[97]⟩, .string ⟨#[49]⟩, .slice (some ⟨X, 0, none⟩) 2 2]) (.slice (some ⟨X, 0, none⟩) 2 2) exB := (RdN.lit (l := exB) hX (by decide)).farL hne
        have hlk : LkIn (wk4.setRow Y #[.string ⟨#[103]⟩, .string ⟨#[97]⟩, .string ⟨#[49]⟩, .slice (some ⟨X, 0, none⟩) 2 2]) Y ⟨#[103]⟩ ⟨#[97]⟩ ⟨#[49]⟩ (.slice (some ⟨X, 0, none⟩) 2 2) := LkIn.of_row (setRow_heap wk4 Y _ _ _ _ hY)
        have hSf := HG.out _ (below_setRow (cs := #[.string ⟨#[103]⟩, .string ⟨#[97]⟩, .string ⟨#[49]⟩, .slice (some ⟨X, 0, none⟩) 2 2]) hHeld.2.2.2 hYge)
        refine hK.out _ _ hSf (fun hHeld => ?_)
        clear hK K
        try simp only [Act.put, List.setIfInBounds_toArray, List.set_cons_zero, List.set_cons_succ]
        refine wpAnyH_done (by kernel_rfl) ?_ _
        have HFIN := Lib.hid (show LkP exB V wc (.pointer (some ⟨Y, 0, none⟩)) (wk4.setRow Y #[.string ⟨#[103]⟩, .string ⟨#[97]⟩, .string ⟨#[49]⟩, .slice (some ⟨X, 0, none⟩) 2 2]) from ⟨Y, _, rfl, hlk, hrd, hSf⟩)
        clear hSf hlk hrd hne hX hY hYge hHeld
        go_wp2_with fail
        go_meet
        exact HFIN.out
    case rest =>
      clear h0 h1 h2 HG
      obtain ⟨YB, pvB, rfl, hlkB, hrdB, g0, g1, g2, hbB⟩ := hcut
      have HW2 := Lib.hid (HW1.out.trans (hbB.mono HW1.out.size))
      have hlA := HLA.out.below hbB (Nat.le_refl _)
      have hrA := HRA.out.below hbB (Nat.le_refl _)
      obtain ⟨va, vc, rfl⟩ := hrA.shape
      obtain ⟨vb, vd, rfl⟩ := hrdB.shape
      have hed := fun (w' : World) (r1 : RdN w' (.slice va exA.length vc) exA) (r2 : RdN w' (.slice vb exB.length vd) exB) => Edits_any ⟨#[103]⟩ ⟨#[97]⟩ ⟨#[49]⟩ (by unfold okT; decide) (by unfold okT; decide) (by unfold okT; decide) ⟨#[103]⟩ ⟨#[97]⟩ ⟨#[49]⟩ (by unfold okT; decide) (by unfold okT; decide) (by unfold okT; decide) (.slice va exA.length vc) (.slice vb exB.length vd) exA exB ex_okA ex_okB (by decide) (by decide) w' r1 r2
      rw [ex_mayA, ex_mayB, ex_edits] at hed
      unfold lockV at hed
      have HED := Lib.hid (hed _ hrA hrdB)
      have hq0 : ((exL0 cB c1 c2).toList == [126, 32, 103, 58, 98, 58, 106, 97, 114, 32, 49, 32, 99, 111, 109, 112, 105, 108, 101, 32, 116, 111, 32, 50, 32, 99, 111, 109, 112, 105, 108, 101]) = true := by rw [ex_line0]; kernel_rfl
      have hq1 : ((exL1 cC c1).toList == [43, 32, 103, 58, 99, 58, 106, 97, 114, 32, 49, 32, 99, 111, 109, 112, 105, 108, 101]) = true := by rw [ex_line1]; kernel_rfl
      have htl := fun (v1 : Value) (w' : World) (h : RdE w' v1 [exE0 cB c1 c2, exE1 cC c1]) => Tell_two cB c1 c2 cC c1 (by decide) (by decide) (by decide) (by decide) (by decide) v1 w' h
      generalize exL0 cB c1 c2 = L0 at hq0 htl
      generalize exL1 cC c1 = L1 at hq1 htl
      have HTL := Lib.hid htl
      obtain ⟨x0, x1, x2, x3⟩ := hlA
      obtain ⟨y0, y1, y2, y3⟩ := hlkB
      clear hed htl hrA hrdB hbB g0 g1 g2
      go_wp2_with fail
      refine HED.out.mono ?_
      rintro e w5 ⟨v5, rfl, hrd5, hb5⟩
      have HB5 := Lib.hid (HW2.out.trans (hb5.mono HW2.out.size))
      have HTL5 := Lib.hid (HTL.out _ _ hrd5)
      clear x0 x1 x2 x3 y0 y1 y2 y3 hrd5 hb5
      go_wp2_with fail
      refine HTL5.out.mono ?_
      rintro e w6 ⟨b, cap, rfl, hcap, f0, f1, hb6⟩
      have HB6 := Lib.hid (HB5.out.trans (hb6.mono HB5.out.size))
      clear hb6
      go_wp2
      go_ret
      exact ⟨rfl, HB6.out⟩
end Go.Proofs.Ytoibanffaebllaa
