/-
  Layer 25: diff.Edits' closure that adds what is another one (a pin of the second alone; of both). Own work.
-/
import Derived.Test.YtoibanffaebllaaMeetE25
import Derived.BigRegion
import Derived.RegionTactic
namespace Go.Proofs.Ytoibanffaebllaa
set_option linter.unusedVariables false
set_option linter.unusedSimpArgs false
open Go.RowKit

set_option maxRecDepth 100000 in
set_option maxHeartbeats 4000000 in
theorem meetE_right (HA HB L : Nat) (w0 w : World) (gB aB vB : ByteArray) (pvB : Value) (lB : List Pn) (pB : Pn) (nB : Nat) (hpB : lB[nB]? = some pB) (hnB : nB ≤ 1000000) (hlkB : LkIn w0 HB gB aB vB pvB) (hrB : RdN w0 pvB lB) (out : List Ed) (r : Option Nat)
    (hgi : GI L (L + 1) mkE 50 18 w0 out.length (rowE out) r w) (hlen : out.length ≤ 2000000) :
    Calls Try.prog 28 #[.int .i64 (-1), .int .i64 nB, .pointer (some ⟨HA, 0, none⟩), .pointer (some ⟨HB, 0, none⟩), .pointer (some ⟨L, 0, none⟩)] w (AddP L (L + 1) mkE w0 (out ++ (edF none (some pB)).toList) r w) := by
  have hbw := hgi.b
  have hsz := hgi.sz
  obtain ⟨paB, pcB, rfl⟩ := hrB.shape
  have HRB := Lib.hid (hrB.below hbw (by omega))
  have hlk1B := hlkB.below hbw (by omega)
  obtain ⟨bB, rfl, _, hl1B, hl2B, hcB⟩ := HRB.out.elem hpB
  have HPRB := Lib.hid (RdN.atR hcB hpB (Below.refl w.heap.size w) (Nat.le_refl _))
  have hilB : (nB : Int) < lB.length := by have := (List.getElem?_eq_some_iff.1 hpB).1; omega
  have hn0B : (0 : Int) ≤ nB := by omega
  have hnatB : nB < lB.length := (List.getElem?_eq_some_iff.1 hpB).1
  have HLTB := Lib.hid (show HB < w.heap.size from World.block_lt_of_cell? w _ hlk1B.1)
  have HLKB := Lib.hid hlk1B
  have HNEB := Lib.hid (show (⟨HB, 3, none⟩ : Addr).block ≠ w.heap.size from by have := HLTB.out; simp only; omega)
  clear hcB hrB hlkB hlk1B hpB
  have HGI := Lib.hid hgi
  have hOF : (sameP zP pB = true ∧ edF none (some pB) = none) ∨ (sameP zP pB = false ∧ edF none (some pB) = some ⟨pB.key, false, true, zP, pB⟩) := by
    cases hs : sameP zP pB
    · exact .inr ⟨rfl, by simp only [edF]; rw [if_neg (by rw [hs]; simp)]⟩
    · exact .inl ⟨rfl, by simp only [edF]; rw [if_pos hs]⟩
  generalize edF none (some pB) = OF at hOF ⊢
  have hP := EdP.newZ w
  have hbel : Below w.heap.size w (w.alloc (.cells #[.string ⟨#[]⟩, .string ⟨#[]⟩, .string ⟨#[]⟩, .string ⟨#[]⟩, .bool false, .bool false, .string ⟨#[]⟩, .string ⟨#[]⟩, .string ⟨#[]⟩, .string ⟨#[]⟩, .string ⟨#[]⟩, .int .i64 0, .string ⟨#[]⟩, .string ⟨#[]⟩, .string ⟨#[]⟩, .string ⟨#[]⟩, .string ⟨#[]⟩, .int .i64 0] 50)) := (Below.refl _ _).alloc (Nat.le_refl _) _
  clear hgi hbw hsz
  go_enter Try.func28, Try.ntmps28
  go_upto_region 4 with fail
  generalize w.alloc (.cells #[.string ⟨#[]⟩, .string ⟨#[]⟩, .string ⟨#[]⟩, .string ⟨#[]⟩, .bool false, .bool false, .string ⟨#[]⟩, .string ⟨#[]⟩, .string ⟨#[]⟩, .string ⟨#[]⟩, .string ⟨#[]⟩, .int .i64 0, .string ⟨#[]⟩, .string ⟨#[]⟩, .string ⟨#[]⟩, .string ⟨#[]⟩, .string ⟨#[]⟩, .int .i64 0] 50) = w1 at hP hbel ⊢
  generalize hVe : w.heap.size = V at hP hbel HNEB ⊢
  have HV := Lib.hid (Nat.le_of_eq hVe)
  have HVE := Lib.hid hVe
  clear hVe
  have hcell := (HLKB.out.below hbel HV.out).2.2.2
  refine wp_region_held_drew (S := (fun w' => w'.cell? ⟨HB, 3, none⟩ = some (.slice (some bB) lB.length pcB) ∧ Below V w w')) (by kernel_rfl) (by (try dsimp only); exact ⟨hcell, hbel.drew⟩) (fun hHeld => ?_)
  refine wpAnyH_take (i := 0) (v := ?_) (by (simp only [List.getElem?_toArray, List.getElem?_cons_succ, List.getElem?_cons_zero]; rfl)) (by kernel_rfl) (by kernel_rfl) (by kernel_rfl) (by intro _ _ _ h; exact h) (Or.inl ⟨by rfl, ?_⟩) (by assumption) ?_
  rotate_left
  · (intro w hSw; (try dsimp only at hSw); go_simp; try (with_reducible rfl))
  simp only [Act.put, List.setIfInBounds_toArray, List.set_cons_zero, List.set_cons_succ]
  refine wpAnyH_take (i := 1) (v := ?_) (by (simp only [List.getElem?_toArray, List.getElem?_cons_succ, List.getElem?_cons_zero]; rfl)) (by kernel_rfl) (by kernel_rfl) (by kernel_rfl) (by intro _ _ _ h; exact h) (Or.inl ⟨by rfl, ?_⟩) (by assumption) ?_
  rotate_left
  · (intro w hSw; (try dsimp only at hSw); go_simp; try (with_reducible rfl))
  simp only [Act.put, List.setIfInBounds_toArray, List.set_cons_zero, List.set_cons_succ]
  refine wpAnyH_take (i := 2) (v := ?_) (by (simp only [List.getElem?_toArray, List.getElem?_cons_succ, List.getElem?_cons_zero]; rfl)) (by kernel_rfl) (by kernel_rfl) (by kernel_rfl) (by intro _ _ _ h; exact h) (Or.inl ⟨by rfl, ?_⟩) (by assumption) ?_
  rotate_left
  · (intro w hSw; (try dsimp only at hSw); go_simp; try (with_reducible rfl))
  simp only [Act.put, List.setIfInBounds_toArray, List.set_cons_zero, List.set_cons_succ]
  refine wpAnyH_take (i := 3) (v := ?_) (by (simp only [List.getElem?_toArray, List.getElem?_cons_succ, List.getElem?_cons_zero]; rfl)) (by kernel_rfl) (by kernel_rfl) (by kernel_rfl) (by intro _ _ _ h; exact h) (Or.inl ⟨by rfl, ?_⟩) (by assumption) ?_
  rotate_left
  · (intro w hSw; (try dsimp only at hSw); go_simp; try (with_reducible rfl))
  simp only [Act.put, List.setIfInBounds_toArray, List.set_cons_zero, List.set_cons_succ]
  refine wpAnyH_take (i := 4) (v := ?_) (by (simp only [List.getElem?_toArray, List.getElem?_cons_succ, List.getElem?_cons_zero]; rfl)) (by kernel_rfl) (by kernel_rfl) (by kernel_rfl) (by intro _ _ _ h; exact h) (Or.inl ⟨by rfl, ?_⟩) (by assumption) ?_
  rotate_left
  · (intro w hSw; (try dsimp only at hSw); go_simp; try (with_reducible rfl))
  simp only [Act.put, List.setIfInBounds_toArray, List.set_cons_zero, List.set_cons_succ]
  refine wpAnyH_take (i := 5) (v := _) (by (simp only [List.getElem?_toArray, List.getElem?_cons_succ, List.getElem?_cons_zero]; rfl)) (by kernel_rfl) (by kernel_rfl) (by kernel_rfl) (by intro _ _ _ h; exact h) (yields_load_key (by rfl) _ rfl (bB.add (nB * 6)) rfl pB.key (fun w h => (HPRB.out.below h.2 HV.out).keyR)) (by assumption) ?_
  simp only [Act.put, List.setIfInBounds_toArray, List.set_cons_zero, List.set_cons_succ]
  refine wpAnyH_take (i := 6) (v := ?_) (by (simp only [List.getElem?_toArray, List.getElem?_cons_succ, List.getElem?_cons_zero]; rfl)) (by kernel_rfl) (by kernel_rfl) (by kernel_rfl) (by intro _ _ _ h; exact h) (Or.inl ⟨by rfl, ?_⟩) (by assumption) ?_
  rotate_left
  · (intro w hSw; (try dsimp only at hSw); go_simp; try (with_reducible rfl))
  simp only [Act.put, List.setIfInBounds_toArray, List.set_cons_zero, List.set_cons_succ]
  refine wpAnyH_take (i := 7) (v := ?_) (by (simp only [List.getElem?_toArray, List.getElem?_cons_succ, List.getElem?_cons_zero]; rfl)) (by kernel_rfl) (by kernel_rfl) (by kernel_rfl) (by intro _ _ _ h; exact h) (Or.inl ⟨by rfl, ?_⟩) (by assumption) ?_
  rotate_left
  · (intro w hSw; (try dsimp only at hSw); go_simp; try (with_reducible rfl))
  simp only [Act.put, List.setIfInBounds_toArray, List.set_cons_zero, List.set_cons_succ]
  refine wpAnyH_take (i := 8) (v := ?_) (by (simp only [List.getElem?_toArray, List.getElem?_cons_succ, List.getElem?_cons_zero]; rfl)) (by kernel_rfl) (by kernel_rfl) (by kernel_rfl) (by intro _ _ _ h; exact h) (Or.inl ⟨by rfl, ?_⟩) (by assumption) ?_
  rotate_left
  · (intro w hSw; (try dsimp only at hSw); go_simp; try (with_reducible rfl))
  simp only [Act.put, List.setIfInBounds_toArray, List.set_cons_zero, List.set_cons_succ]
  refine wpAnyH_take (i := 9) (v := ?_) (by (simp only [List.getElem?_toArray, List.getElem?_cons_succ, List.getElem?_cons_zero]; rfl)) (by kernel_rfl) (by kernel_rfl) (by kernel_rfl) (by intro _ _ _ h; exact h) (Or.inl ⟨by rfl, ?_⟩) (by assumption) ?_
  rotate_left
  · (intro w hSw; (try dsimp only at hSw); go_simp; try (with_reducible rfl))
  simp only [Act.put, List.setIfInBounds_toArray, List.set_cons_zero, List.set_cons_succ]
  refine wpAnyH_take (i := 10) (v := _) (by (simp only [List.getElem?_toArray, List.getElem?_cons_succ, List.getElem?_cons_zero]; rfl)) (by kernel_rfl) (by kernel_rfl) (by kernel_rfl) (by intro _ _ _ h; exact h) (yields_load_pin (by rfl) _ rfl (bB.add (nB * 6)) rfl pB (fun w h => HPRB.out.below h.2 HV.out)) (by assumption) ?_
  simp only [Act.put, List.setIfInBounds_toArray, List.set_cons_zero, List.set_cons_succ]
  refine wpAnyH_take (i := 11) (v := ?_) (by (simp only [List.getElem?_toArray, List.getElem?_cons_succ, List.getElem?_cons_zero]; rfl)) (by kernel_rfl) (by kernel_rfl) (by kernel_rfl) (by intro _ _ _ h; exact h) (Or.inl ⟨by rfl, ?_⟩) (by assumption) ?_
  rotate_left
  · (intro w hSw; (try dsimp only at hSw); go_simp; try (with_reducible rfl))
  simp only [Act.put, List.setIfInBounds_toArray, List.set_cons_zero, List.set_cons_succ]
  have HP0 := Lib.hid (show EdP w1.drew V ⟨⟨⟨#[]⟩, ⟨#[]⟩, ⟨#[]⟩, ⟨#[]⟩⟩, false, false, zP, zP⟩ from hP)
  clear hP hbel
  refine wpAnyH_ready (rs := [12]) (by kernel_rfl) (by simp) ?_
  refine AllReadyH.cons (by (simp only [List.getElem?_toArray, List.getElem?_cons_succ, List.getElem?_cons_zero]; rfl)) (fun K hK => ?_) AllReadyH.nil
  refine wp_store_part 46 _ _ rfl V 0 (.agg #[.string pB.g, .string pB.a, .string pB.t, .string pB.c]) #[.string pB.g, .string pB.a, .string pB.t, .string pB.c] rfl rfl rfl 50 _ HP0.out (by kernel_rfl) (by simp) (by simp [Value.oneCell']) #[.string pB.g, .string pB.a, .string pB.t, .string pB.c, .bool false, .bool false, .string ⟨#[]⟩, .string ⟨#[]⟩, .string ⟨#[]⟩, .string ⟨#[]⟩, .string ⟨#[]⟩, .int .i64 0, .string ⟨#[]⟩, .string ⟨#[]⟩, .string ⟨#[]⟩, .string ⟨#[]⟩, .string ⟨#[]⟩, .int .i64 0] rfl ?_
  have HP1 := Lib.hid (show EdP _ V ⟨pB.key, false, false, zP, zP⟩ from setRow_heap _ V _ #[.string pB.g, .string pB.a, .string pB.t, .string pB.c, .bool false, .bool false, .string ⟨#[]⟩, .string ⟨#[]⟩, .string ⟨#[]⟩, .string ⟨#[]⟩, .string ⟨#[]⟩, .int .i64 0, .string ⟨#[]⟩, .string ⟨#[]⟩, .string ⟨#[]⟩, .string ⟨#[]⟩, .string ⟨#[]⟩, .int .i64 0] _ _ HP0.out)
  refine hK.out _ _ ⟨(cell_setRow_other _ V _ _ HNEB.out).trans hHeld.1, below_setRow hHeld.2 (Nat.le_refl V)⟩ (fun hHeld => ?_)
  clear hK K
  try simp only [Act.put, List.setIfInBounds_toArray, List.set_cons_zero, List.set_cons_succ]
  refine wpAnyH_take (i := 13) (v := ?_) (by (simp only [List.getElem?_toArray, List.getElem?_cons_succ, List.getElem?_cons_zero]; rfl)) (by kernel_rfl) (by kernel_rfl) (by kernel_rfl) (by intro _ _ _ h; exact h) (Or.inl ⟨by rfl, ?_⟩) (by assumption) ?_
  rotate_left
  · (intro w hSw; (try dsimp only at hSw); go_simp; try (with_reducible rfl))
  simp only [Act.put, List.setIfInBounds_toArray, List.set_cons_zero, List.set_cons_succ]
  refine wpAnyH_ready (rs := [14]) (by kernel_rfl) (by simp) ?_
  refine AllReadyH.cons (by (simp only [List.getElem?_toArray, List.getElem?_cons_succ, List.getElem?_cons_zero]; rfl)) (fun K hK => ?_) AllReadyH.nil
  refine wp_store_part 4 _ _ rfl V 5 (.bool true) #[.bool true] rfl rfl rfl 50 _ HP1.out (by kernel_rfl) (by simp) (by simp [Value.oneCell']) #[.string pB.g, .string pB.a, .string pB.t, .string pB.c, .bool false, .bool true, .string ⟨#[]⟩, .string ⟨#[]⟩, .string ⟨#[]⟩, .string ⟨#[]⟩, .string ⟨#[]⟩, .int .i64 0, .string ⟨#[]⟩, .string ⟨#[]⟩, .string ⟨#[]⟩, .string ⟨#[]⟩, .string ⟨#[]⟩, .int .i64 0] rfl ?_
  have HP2 := Lib.hid (show EdP _ V ⟨pB.key, false, true, zP, zP⟩ from setRow_heap _ V _ #[.string pB.g, .string pB.a, .string pB.t, .string pB.c, .bool false, .bool true, .string ⟨#[]⟩, .string ⟨#[]⟩, .string ⟨#[]⟩, .string ⟨#[]⟩, .string ⟨#[]⟩, .int .i64 0, .string ⟨#[]⟩, .string ⟨#[]⟩, .string ⟨#[]⟩, .string ⟨#[]⟩, .string ⟨#[]⟩, .int .i64 0] _ _ HP1.out)
  refine hK.out _ _ ⟨(cell_setRow_other _ V _ _ HNEB.out).trans hHeld.1, below_setRow hHeld.2 (Nat.le_refl V)⟩ (fun hHeld => ?_)
  clear hK K
  try simp only [Act.put, List.setIfInBounds_toArray, List.set_cons_zero, List.set_cons_succ]
  refine wpAnyH_take (i := 15) (v := ?_) (by (simp only [List.getElem?_toArray, List.getElem?_cons_succ, List.getElem?_cons_zero]; rfl)) (by kernel_rfl) (by kernel_rfl) (by kernel_rfl) (by intro _ _ _ h; exact h) (Or.inl ⟨by rfl, ?_⟩) (by assumption) ?_
  rotate_left
  · (intro w hSw; (try dsimp only at hSw); go_simp; try (with_reducible rfl))
  simp only [Act.put, List.setIfInBounds_toArray, List.set_cons_zero, List.set_cons_succ]
  refine wpAnyH_ready (rs := [16]) (by kernel_rfl) (by simp) ?_
  refine AllReadyH.cons (by (simp only [List.getElem?_toArray, List.getElem?_cons_succ, List.getElem?_cons_zero]; rfl)) (fun K hK => ?_) AllReadyH.nil
  refine wp_store_part 48 _ _ rfl V 12 (.agg #[.string pB.g, .string pB.a, .string pB.t, .string pB.c, .string pB.v, .int .i64 pB.sc]) #[.string pB.g, .string pB.a, .string pB.t, .string pB.c, .string pB.v, .int .i64 pB.sc] rfl rfl rfl 50 _ HP2.out (by kernel_rfl) (by simp) (by simp [Value.oneCell']) #[.string pB.g, .string pB.a, .string pB.t, .string pB.c, .bool false, .bool true, .string ⟨#[]⟩, .string ⟨#[]⟩, .string ⟨#[]⟩, .string ⟨#[]⟩, .string ⟨#[]⟩, .int .i64 0, .string pB.g, .string pB.a, .string pB.t, .string pB.c, .string pB.v, .int .i64 pB.sc] rfl ?_
  have HP3 := Lib.hid (show EdP _ V ⟨pB.key, false, true, zP, pB⟩ from setRow_heap _ V _ #[.string pB.g, .string pB.a, .string pB.t, .string pB.c, .bool false, .bool true, .string ⟨#[]⟩, .string ⟨#[]⟩, .string ⟨#[]⟩, .string ⟨#[]⟩, .string ⟨#[]⟩, .int .i64 0, .string pB.g, .string pB.a, .string pB.t, .string pB.c, .string pB.v, .int .i64 pB.sc] _ _ HP2.out)
  refine hK.out _ _ ⟨(cell_setRow_other _ V _ _ HNEB.out).trans hHeld.1, below_setRow hHeld.2 (Nat.le_refl V)⟩ (fun hHeld => ?_)
  clear hK K
  try simp only [Act.put, List.setIfInBounds_toArray, List.set_cons_zero, List.set_cons_succ]
  refine wpAnyH_done (by kernel_rfl) ?_ _
  have hP := HP3.out
  have hbel := hHeld.2
  clear HP0 HP1 HP2 HP3
  generalize ((w1.drew.setRow V #[.string pB.g, .string pB.a, .string pB.t, .string pB.c, .bool false, .bool false, .string ⟨#[]⟩, .string ⟨#[]⟩, .string ⟨#[]⟩, .string ⟨#[]⟩, .string ⟨#[]⟩, .int .i64 0, .string ⟨#[]⟩, .string ⟨#[]⟩, .string ⟨#[]⟩, .string ⟨#[]⟩, .string ⟨#[]⟩, .int .i64 0]).setRow V #[.string pB.g, .string pB.a, .string pB.t, .string pB.c, .bool false, .bool true, .string ⟨#[]⟩, .string ⟨#[]⟩, .string ⟨#[]⟩, .string ⟨#[]⟩, .string ⟨#[]⟩, .int .i64 0, .string ⟨#[]⟩, .string ⟨#[]⟩, .string ⟨#[]⟩, .string ⟨#[]⟩, .string ⟨#[]⟩, .int .i64 0]).setRow V #[.string pB.g, .string pB.a, .string pB.t, .string pB.c, .bool false, .bool true, .string ⟨#[]⟩, .string ⟨#[]⟩, .string ⟨#[]⟩, .string ⟨#[]⟩, .string ⟨#[]⟩, .int .i64 0, .string pB.g, .string pB.a, .string pB.t, .string pB.c, .string pB.v, .int .i64 pB.sc] = w2 at hP hbel ⊢
  clear hcell hHeld
  have HPF := Lib.hid hP
  have HBF := Lib.hid hbel
  obtain ⟨y0, y1, y2, y3, y4, y5, y6, y7, y8, y9, y10, y11, y12, y13, y14, y15, y16, y17⟩ := hP.cells
  clear hP hbel
  have heq := fun w => neq_pin zP pB w
  rcases hOF with ⟨hs, hof⟩ | ⟨hs, hof⟩
  · have HOF := Lib.hid hof
    clear hof
    rw [hs] at heq
    clear hs
    go_wp2
    go_end0
    refine ⟨rfl, r, ?_, Stp.of_below (by rw [HVE.out]; exact HBF.out)⟩
    rw [HOF.out]
    simpa using HGI.out.below (by rw [HVE.out]; exact HBF.out)
  · have HOF := Lib.hid hof
    clear hof
    rw [hs] at heq
    clear hs
    obtain ⟨v, hv, hown, hrv⟩ := HGI.out.row
    have hLV : L < V := by have h1 := HGI.out.lt; have h2 := HGI.out.bs; have h3 := HVE.out; omega
    have hL2 : w2.heap[L]? = some (Obj.cells #[v] 29 (0, 0)) := (HBF.out.block L hLV).trans hv
    have hown2 : w2.ownsRow (L + 1) 50 18 v out.length (rowE out) := own_same hown fun g hg => HBF.out.block g (by have := (hown.lt g hg).2; have h3 := HVE.out; omega)
    have hc0 : w2.cell? ⟨L, 0, none⟩ = some v := by rw [cell_of_row w2 L 0 _ _ (0, 0) hL2]; rfl
    have hvL : v.ownBlock ≠ some L := fun e => by have := (hown.lt L e).1; omega
    have HFR := Lib.hid (fun (w3 : World) (hg : w2.grownBy w3 v.ownBlock) => show w3.frozen? ⟨L, 0, none⟩ = false ∧ w3.heap[L]? = some (Obj.cells #[v] 29 (0, 0)) from by
      have h3 : w3.heap[L]? = some (Obj.cells #[v] 29 (0, 0)) := (hg.block L (by have := HBF.out.size; have h3 := HVE.out; omega) (fun e => hvL e.symm)).trans hL2
      exact ⟨frozen_of_row w3 L 0 _ _ h3, h3⟩)
    have HOWN := Lib.hid hown
    have HOWN2 := Lib.hid hown2
    have HRV := Lib.hid hrv
    have HVV := Lib.hid hv
    have hsz2 : L + 1 ≤ w2.heap.size := by have := HBF.out.size; have h3 := HVE.out; omega
    have HSZ2 := Lib.hid hsz2
    clear hown hown2 hrv hv hL2 hvL hsz2
    go_wp2_with (first
      | (refine wpList_load_ed rfl _ rfl _ rfl ⟨pB.key, false, true, zP, pB⟩ HPF.out.edR ?_)
      | (at_builtin
         refine app18e ⟨pB.key, false, true, zP, pB⟩ rfl _ _ 29 50 rfl _ 248 (L + 1) out.length Try.underlying29 ed_info rfl v _ rfl HOWN2.out (by simp [Act.eval]) (by omega) (by omega) HSZ2.out ?_))
    intro v' w3 ho3 hg3 hne3
    obtain ⟨f1, hL3⟩ := HFR.out w3 hg3
    have hL4 : (w3.setCell ⟨L, 0, none⟩ v').heap[L]? = some (mkE v') := by
      have := heap_setCell_same w3 L 0 #[v] 29 v' hL3
      show _ = some (Obj.cells #[v'] 29 (0, 0))
      simpa using this
    have HFIN := Lib.hid (HGI.out.add HVV.out HRV.out HOWN.out (w1 := w2) (w3 := w3.setCell ⟨L, 0, none⟩ v') (by rw [HVE.out]; exact HBF.out) ho3 hg3 hne3 ⟨rfl, rfl, rfl, by simp, fun k _ hk => heap_setCell_other w3 ⟨L, 0, none⟩ k v' (fun e => hk (by simp [e]))⟩ hL4)
    have hc3 : w3.cell? ⟨L, 0, none⟩ = some v := by rw [cell_of_row w3 L 0 _ _ (0, 0) hL3]; rfl
    obtain ⟨g1, cap1, rfl⟩ : ∃ g cap, v' = .slice (some ⟨g, 0, none⟩) (out.length + 1) cap := by
      rcases ho3.2 with ⟨_, h0⟩ | ⟨g, cap, cur, hv, _⟩
      · omega
      · exact ⟨g, cap, hv⟩
    clear ho3 hg3 hne3 hL3 hL4 hc0
    go_wp2
    go_end0
    refine ⟨rfl, _, ?_, HFIN.out.2⟩
    rw [HOF.out]
    have h := HFIN.out.1
    rw [← rowE_snoc] at h
    simpa using h
set_option maxRecDepth 100000 in
set_option maxHeartbeats 4000000 in
theorem meetE_both (HA HB L : Nat) (w0 w : World) (gA aA vA : ByteArray) (pvA : Value) (lA : List Pn) (pA : Pn) (nA : Nat) (hpA : lA[nA]? = some pA) (hnA : nA ≤ 1000000) (hlkA : LkIn w0 HA gA aA vA pvA) (hrA : RdN w0 pvA lA) (gB aB vB : ByteArray) (pvB : Value) (lB : List Pn) (pB : Pn) (nB : Nat) (hpB : lB[nB]? = some pB) (hnB : nB ≤ 1000000) (hlkB : LkIn w0 HB gB aB vB pvB) (hrB : RdN w0 pvB lB) (out : List Ed) (r : Option Nat)
    (hgi : GI L (L + 1) mkE 50 18 w0 out.length (rowE out) r w) (hlen : out.length ≤ 2000000) :
    Calls Try.prog 28 #[.int .i64 nA, .int .i64 nB, .pointer (some ⟨HA, 0, none⟩), .pointer (some ⟨HB, 0, none⟩), .pointer (some ⟨L, 0, none⟩)] w (AddP L (L + 1) mkE w0 (out ++ (edF (some pA) (some pB)).toList) r w) := by
  have hbw := hgi.b
  have hsz := hgi.sz
  obtain ⟨paA, pcA, rfl⟩ := hrA.shape
  have HRA := Lib.hid (hrA.below hbw (by omega))
  have hlk1A := hlkA.below hbw (by omega)
  obtain ⟨bA, rfl, _, hl1A, hl2A, hcA⟩ := HRA.out.elem hpA
  have HPRA := Lib.hid (RdN.atR hcA hpA (Below.refl w.heap.size w) (Nat.le_refl _))
  have hilA : (nA : Int) < lA.length := by have := (List.getElem?_eq_some_iff.1 hpA).1; omega
  have hn0A : (0 : Int) ≤ nA := by omega
  have hnatA : nA < lA.length := (List.getElem?_eq_some_iff.1 hpA).1
  have HLTA := Lib.hid (show HA < w.heap.size from World.block_lt_of_cell? w _ hlk1A.1)
  have HLKA := Lib.hid hlk1A
  have HNEA := Lib.hid (show (⟨HA, 3, none⟩ : Addr).block ≠ w.heap.size from by have := HLTA.out; simp only; omega)
  clear hcA hrA hlkA hlk1A hpA
  obtain ⟨paB, pcB, rfl⟩ := hrB.shape
  have HRB := Lib.hid (hrB.below hbw (by omega))
  have hlk1B := hlkB.below hbw (by omega)
  obtain ⟨bB, rfl, _, hl1B, hl2B, hcB⟩ := HRB.out.elem hpB
  have HPRB := Lib.hid (RdN.atR hcB hpB (Below.refl w.heap.size w) (Nat.le_refl _))
  have hilB : (nB : Int) < lB.length := by have := (List.getElem?_eq_some_iff.1 hpB).1; omega
  have hn0B : (0 : Int) ≤ nB := by omega
  have hnatB : nB < lB.length := (List.getElem?_eq_some_iff.1 hpB).1
  have HLTB := Lib.hid (show HB < w.heap.size from World.block_lt_of_cell? w _ hlk1B.1)
  have HLKB := Lib.hid hlk1B
  have HNEB := Lib.hid (show (⟨HB, 3, none⟩ : Addr).block ≠ w.heap.size from by have := HLTB.out; simp only; omega)
  clear hcB hrB hlkB hlk1B hpB
  have HGI := Lib.hid hgi
  have hOF : (sameP pA pB = true ∧ edF (some pA) (some pB) = none) ∨ (sameP pA pB = false ∧ edF (some pA) (some pB) = some ⟨pB.key, true, true, pA, pB⟩) := by
    cases hs : sameP pA pB
    · exact .inr ⟨rfl, by simp only [edF]; rw [if_neg (by rw [hs]; simp)]⟩
    · exact .inl ⟨rfl, by simp only [edF]; rw [if_pos hs]⟩
  generalize edF (some pA) (some pB) = OF at hOF ⊢
  have hP := EdP.newZ w
  have hbel : Below w.heap.size w (w.alloc (.cells #[.string ⟨#[]⟩, .string ⟨#[]⟩, .string ⟨#[]⟩, .string ⟨#[]⟩, .bool false, .bool false, .string ⟨#[]⟩, .string ⟨#[]⟩, .string ⟨#[]⟩, .string ⟨#[]⟩, .string ⟨#[]⟩, .int .i64 0, .string ⟨#[]⟩, .string ⟨#[]⟩, .string ⟨#[]⟩, .string ⟨#[]⟩, .string ⟨#[]⟩, .int .i64 0] 50)) := (Below.refl _ _).alloc (Nat.le_refl _) _
  clear hgi hbw hsz
  go_enter Try.func28, Try.ntmps28
  go_upto_region 2 with fail
  generalize w.alloc (.cells #[.string ⟨#[]⟩, .string ⟨#[]⟩, .string ⟨#[]⟩, .string ⟨#[]⟩, .bool false, .bool false, .string ⟨#[]⟩, .string ⟨#[]⟩, .string ⟨#[]⟩, .string ⟨#[]⟩, .string ⟨#[]⟩, .int .i64 0, .string ⟨#[]⟩, .string ⟨#[]⟩, .string ⟨#[]⟩, .string ⟨#[]⟩, .string ⟨#[]⟩, .int .i64 0] 50) = w1 at hP hbel ⊢
  generalize hVe : w.heap.size = V at hP hbel HNEA HNEB ⊢
  have HV := Lib.hid (Nat.le_of_eq hVe)
  have HVE := Lib.hid hVe
  clear hVe
  have hcell := (HLKA.out.below hbel HV.out).2.2.2
  refine wp_region_held_drew (S := (fun w' => w'.cell? ⟨HA, 3, none⟩ = some (.slice (some bA) lA.length pcA) ∧ Below V w w')) (by kernel_rfl) (by (try dsimp only); exact ⟨hcell, hbel.drew⟩) (fun hHeld => ?_)
  refine wpAnyH_take (i := 0) (v := ?_) (by (simp only [List.getElem?_toArray, List.getElem?_cons_succ, List.getElem?_cons_zero]; rfl)) (by kernel_rfl) (by kernel_rfl) (by kernel_rfl) (by intro _ _ _ h; exact h) (Or.inl ⟨by rfl, ?_⟩) (by assumption) ?_
  rotate_left
  · (intro w hSw; (try dsimp only at hSw); go_simp; try (with_reducible rfl))
  simp only [Act.put, List.setIfInBounds_toArray, List.set_cons_zero, List.set_cons_succ]
  refine wpAnyH_take (i := 1) (v := ?_) (by (simp only [List.getElem?_toArray, List.getElem?_cons_succ, List.getElem?_cons_zero]; rfl)) (by kernel_rfl) (by kernel_rfl) (by kernel_rfl) (by intro _ _ _ h; exact h) (Or.inl ⟨by rfl, ?_⟩) (by assumption) ?_
  rotate_left
  · (intro w hSw; (try dsimp only at hSw); go_simp; try (with_reducible rfl))
  simp only [Act.put, List.setIfInBounds_toArray, List.set_cons_zero, List.set_cons_succ]
  refine wpAnyH_take (i := 2) (v := ?_) (by (simp only [List.getElem?_toArray, List.getElem?_cons_succ, List.getElem?_cons_zero]; rfl)) (by kernel_rfl) (by kernel_rfl) (by kernel_rfl) (by intro _ _ _ h; exact h) (Or.inl ⟨by rfl, ?_⟩) (by assumption) ?_
  rotate_left
  · (intro w hSw; (try dsimp only at hSw); go_simp; try (with_reducible rfl))
  simp only [Act.put, List.setIfInBounds_toArray, List.set_cons_zero, List.set_cons_succ]
  refine wpAnyH_take (i := 3) (v := ?_) (by (simp only [List.getElem?_toArray, List.getElem?_cons_succ, List.getElem?_cons_zero]; rfl)) (by kernel_rfl) (by kernel_rfl) (by kernel_rfl) (by intro _ _ _ h; exact h) (Or.inl ⟨by rfl, ?_⟩) (by assumption) ?_
  rotate_left
  · (intro w hSw; (try dsimp only at hSw); go_simp; try (with_reducible rfl))
  simp only [Act.put, List.setIfInBounds_toArray, List.set_cons_zero, List.set_cons_succ]
  refine wpAnyH_take (i := 4) (v := ?_) (by (simp only [List.getElem?_toArray, List.getElem?_cons_succ, List.getElem?_cons_zero]; rfl)) (by kernel_rfl) (by kernel_rfl) (by kernel_rfl) (by intro _ _ _ h; exact h) (Or.inl ⟨by rfl, ?_⟩) (by assumption) ?_
  rotate_left
  · (intro w hSw; (try dsimp only at hSw); go_simp; try (with_reducible rfl))
  simp only [Act.put, List.setIfInBounds_toArray, List.set_cons_zero, List.set_cons_succ]
  refine wpAnyH_take (i := 5) (v := _) (by (simp only [List.getElem?_toArray, List.getElem?_cons_succ, List.getElem?_cons_zero]; rfl)) (by kernel_rfl) (by kernel_rfl) (by kernel_rfl) (by intro _ _ _ h; exact h) (yields_load_key (by rfl) _ rfl (bA.add (nA * 6)) rfl pA.key (fun w h => (HPRA.out.below h.2 HV.out).keyR)) (by assumption) ?_
  simp only [Act.put, List.setIfInBounds_toArray, List.set_cons_zero, List.set_cons_succ]
  refine wpAnyH_take (i := 6) (v := ?_) (by (simp only [List.getElem?_toArray, List.getElem?_cons_succ, List.getElem?_cons_zero]; rfl)) (by kernel_rfl) (by kernel_rfl) (by kernel_rfl) (by intro _ _ _ h; exact h) (Or.inl ⟨by rfl, ?_⟩) (by assumption) ?_
  rotate_left
  · (intro w hSw; (try dsimp only at hSw); go_simp; try (with_reducible rfl))
  simp only [Act.put, List.setIfInBounds_toArray, List.set_cons_zero, List.set_cons_succ]
  refine wpAnyH_take (i := 7) (v := ?_) (by (simp only [List.getElem?_toArray, List.getElem?_cons_succ, List.getElem?_cons_zero]; rfl)) (by kernel_rfl) (by kernel_rfl) (by kernel_rfl) (by intro _ _ _ h; exact h) (Or.inl ⟨by rfl, ?_⟩) (by assumption) ?_
  rotate_left
  · (intro w hSw; (try dsimp only at hSw); go_simp; try (with_reducible rfl))
  simp only [Act.put, List.setIfInBounds_toArray, List.set_cons_zero, List.set_cons_succ]
  refine wpAnyH_take (i := 8) (v := ?_) (by (simp only [List.getElem?_toArray, List.getElem?_cons_succ, List.getElem?_cons_zero]; rfl)) (by kernel_rfl) (by kernel_rfl) (by kernel_rfl) (by intro _ _ _ h; exact h) (Or.inl ⟨by rfl, ?_⟩) (by assumption) ?_
  rotate_left
  · (intro w hSw; (try dsimp only at hSw); go_simp; try (with_reducible rfl))
  simp only [Act.put, List.setIfInBounds_toArray, List.set_cons_zero, List.set_cons_succ]
  refine wpAnyH_take (i := 9) (v := ?_) (by (simp only [List.getElem?_toArray, List.getElem?_cons_succ, List.getElem?_cons_zero]; rfl)) (by kernel_rfl) (by kernel_rfl) (by kernel_rfl) (by intro _ _ _ h; exact h) (Or.inl ⟨by rfl, ?_⟩) (by assumption) ?_
  rotate_left
  · (intro w hSw; (try dsimp only at hSw); go_simp; try (with_reducible rfl))
  simp only [Act.put, List.setIfInBounds_toArray, List.set_cons_zero, List.set_cons_succ]
  refine wpAnyH_take (i := 10) (v := _) (by (simp only [List.getElem?_toArray, List.getElem?_cons_succ, List.getElem?_cons_zero]; rfl)) (by kernel_rfl) (by kernel_rfl) (by kernel_rfl) (by intro _ _ _ h; exact h) (yields_load_pin (by rfl) _ rfl (bA.add (nA * 6)) rfl pA (fun w h => HPRA.out.below h.2 HV.out)) (by assumption) ?_
  simp only [Act.put, List.setIfInBounds_toArray, List.set_cons_zero, List.set_cons_succ]
  refine wpAnyH_take (i := 11) (v := ?_) (by (simp only [List.getElem?_toArray, List.getElem?_cons_succ, List.getElem?_cons_zero]; rfl)) (by kernel_rfl) (by kernel_rfl) (by kernel_rfl) (by intro _ _ _ h; exact h) (Or.inl ⟨by rfl, ?_⟩) (by assumption) ?_
  rotate_left
  · (intro w hSw; (try dsimp only at hSw); go_simp; try (with_reducible rfl))
  simp only [Act.put, List.setIfInBounds_toArray, List.set_cons_zero, List.set_cons_succ]
  have HP0 := Lib.hid (show EdP w1.drew V ⟨⟨⟨#[]⟩, ⟨#[]⟩, ⟨#[]⟩, ⟨#[]⟩⟩, false, false, zP, zP⟩ from hP)
  clear hP hbel
  refine wpAnyH_ready (rs := [12]) (by kernel_rfl) (by simp) ?_
  refine AllReadyH.cons (by (simp only [List.getElem?_toArray, List.getElem?_cons_succ, List.getElem?_cons_zero]; rfl)) (fun K hK => ?_) AllReadyH.nil
  refine wp_store_part 46 _ _ rfl V 0 (.agg #[.string pA.g, .string pA.a, .string pA.t, .string pA.c]) #[.string pA.g, .string pA.a, .string pA.t, .string pA.c] rfl rfl rfl 50 _ HP0.out (by kernel_rfl) (by simp) (by simp [Value.oneCell']) #[.string pA.g, .string pA.a, .string pA.t, .string pA.c, .bool false, .bool false, .string ⟨#[]⟩, .string ⟨#[]⟩, .string ⟨#[]⟩, .string ⟨#[]⟩, .string ⟨#[]⟩, .int .i64 0, .string ⟨#[]⟩, .string ⟨#[]⟩, .string ⟨#[]⟩, .string ⟨#[]⟩, .string ⟨#[]⟩, .int .i64 0] rfl ?_
  have HP1 := Lib.hid (show EdP _ V ⟨pA.key, false, false, zP, zP⟩ from setRow_heap _ V _ #[.string pA.g, .string pA.a, .string pA.t, .string pA.c, .bool false, .bool false, .string ⟨#[]⟩, .string ⟨#[]⟩, .string ⟨#[]⟩, .string ⟨#[]⟩, .string ⟨#[]⟩, .int .i64 0, .string ⟨#[]⟩, .string ⟨#[]⟩, .string ⟨#[]⟩, .string ⟨#[]⟩, .string ⟨#[]⟩, .int .i64 0] _ _ HP0.out)
  refine hK.out _ _ ⟨(cell_setRow_other _ V _ _ HNEA.out).trans hHeld.1, below_setRow hHeld.2 (Nat.le_refl V)⟩ (fun hHeld => ?_)
  clear hK K
  try simp only [Act.put, List.setIfInBounds_toArray, List.set_cons_zero, List.set_cons_succ]
  refine wpAnyH_take (i := 13) (v := ?_) (by (simp only [List.getElem?_toArray, List.getElem?_cons_succ, List.getElem?_cons_zero]; rfl)) (by kernel_rfl) (by kernel_rfl) (by kernel_rfl) (by intro _ _ _ h; exact h) (Or.inl ⟨by rfl, ?_⟩) (by assumption) ?_
  rotate_left
  · (intro w hSw; (try dsimp only at hSw); go_simp; try (with_reducible rfl))
  simp only [Act.put, List.setIfInBounds_toArray, List.set_cons_zero, List.set_cons_succ]
  refine wpAnyH_ready (rs := [14]) (by kernel_rfl) (by simp) ?_
  refine AllReadyH.cons (by (simp only [List.getElem?_toArray, List.getElem?_cons_succ, List.getElem?_cons_zero]; rfl)) (fun K hK => ?_) AllReadyH.nil
  refine wp_store_part 4 _ _ rfl V 4 (.bool true) #[.bool true] rfl rfl rfl 50 _ HP1.out (by kernel_rfl) (by simp) (by simp [Value.oneCell']) #[.string pA.g, .string pA.a, .string pA.t, .string pA.c, .bool true, .bool false, .string ⟨#[]⟩, .string ⟨#[]⟩, .string ⟨#[]⟩, .string ⟨#[]⟩, .string ⟨#[]⟩, .int .i64 0, .string ⟨#[]⟩, .string ⟨#[]⟩, .string ⟨#[]⟩, .string ⟨#[]⟩, .string ⟨#[]⟩, .int .i64 0] rfl ?_
  have HP2 := Lib.hid (show EdP _ V ⟨pA.key, true, false, zP, zP⟩ from setRow_heap _ V _ #[.string pA.g, .string pA.a, .string pA.t, .string pA.c, .bool true, .bool false, .string ⟨#[]⟩, .string ⟨#[]⟩, .string ⟨#[]⟩, .string ⟨#[]⟩, .string ⟨#[]⟩, .int .i64 0, .string ⟨#[]⟩, .string ⟨#[]⟩, .string ⟨#[]⟩, .string ⟨#[]⟩, .string ⟨#[]⟩, .int .i64 0] _ _ HP1.out)
  refine hK.out _ _ ⟨(cell_setRow_other _ V _ _ HNEA.out).trans hHeld.1, below_setRow hHeld.2 (Nat.le_refl V)⟩ (fun hHeld => ?_)
  clear hK K
  try simp only [Act.put, List.setIfInBounds_toArray, List.set_cons_zero, List.set_cons_succ]
  refine wpAnyH_take (i := 15) (v := ?_) (by (simp only [List.getElem?_toArray, List.getElem?_cons_succ, List.getElem?_cons_zero]; rfl)) (by kernel_rfl) (by kernel_rfl) (by kernel_rfl) (by intro _ _ _ h; exact h) (Or.inl ⟨by rfl, ?_⟩) (by assumption) ?_
  rotate_left
  · (intro w hSw; (try dsimp only at hSw); go_simp; try (with_reducible rfl))
  simp only [Act.put, List.setIfInBounds_toArray, List.set_cons_zero, List.set_cons_succ]
  refine wpAnyH_ready (rs := [16]) (by kernel_rfl) (by simp) ?_
  refine AllReadyH.cons (by (simp only [List.getElem?_toArray, List.getElem?_cons_succ, List.getElem?_cons_zero]; rfl)) (fun K hK => ?_) AllReadyH.nil
  refine wp_store_part 48 _ _ rfl V 6 (.agg #[.string pA.g, .string pA.a, .string pA.t, .string pA.c, .string pA.v, .int .i64 pA.sc]) #[.string pA.g, .string pA.a, .string pA.t, .string pA.c, .string pA.v, .int .i64 pA.sc] rfl rfl rfl 50 _ HP2.out (by kernel_rfl) (by simp) (by simp [Value.oneCell']) #[.string pA.g, .string pA.a, .string pA.t, .string pA.c, .bool true, .bool false, .string pA.g, .string pA.a, .string pA.t, .string pA.c, .string pA.v, .int .i64 pA.sc, .string ⟨#[]⟩, .string ⟨#[]⟩, .string ⟨#[]⟩, .string ⟨#[]⟩, .string ⟨#[]⟩, .int .i64 0] rfl ?_
  have HP3 := Lib.hid (show EdP _ V ⟨pA.key, true, false, pA, zP⟩ from setRow_heap _ V _ #[.string pA.g, .string pA.a, .string pA.t, .string pA.c, .bool true, .bool false, .string pA.g, .string pA.a, .string pA.t, .string pA.c, .string pA.v, .int .i64 pA.sc, .string ⟨#[]⟩, .string ⟨#[]⟩, .string ⟨#[]⟩, .string ⟨#[]⟩, .string ⟨#[]⟩, .int .i64 0] _ _ HP2.out)
  refine hK.out _ _ ⟨(cell_setRow_other _ V _ _ HNEA.out).trans hHeld.1, below_setRow hHeld.2 (Nat.le_refl V)⟩ (fun hHeld => ?_)
  clear hK K
  try simp only [Act.put, List.setIfInBounds_toArray, List.set_cons_zero, List.set_cons_succ]
  refine wpAnyH_done (by kernel_rfl) ?_ _
  have hP := HP3.out
  have hbel := hHeld.2
  clear HP0 HP1 HP2 HP3
  generalize ((w1.drew.setRow V #[.string pA.g, .string pA.a, .string pA.t, .string pA.c, .bool false, .bool false, .string ⟨#[]⟩, .string ⟨#[]⟩, .string ⟨#[]⟩, .string ⟨#[]⟩, .string ⟨#[]⟩, .int .i64 0, .string ⟨#[]⟩, .string ⟨#[]⟩, .string ⟨#[]⟩, .string ⟨#[]⟩, .string ⟨#[]⟩, .int .i64 0]).setRow V #[.string pA.g, .string pA.a, .string pA.t, .string pA.c, .bool true, .bool false, .string ⟨#[]⟩, .string ⟨#[]⟩, .string ⟨#[]⟩, .string ⟨#[]⟩, .string ⟨#[]⟩, .int .i64 0, .string ⟨#[]⟩, .string ⟨#[]⟩, .string ⟨#[]⟩, .string ⟨#[]⟩, .string ⟨#[]⟩, .int .i64 0]).setRow V #[.string pA.g, .string pA.a, .string pA.t, .string pA.c, .bool true, .bool false, .string pA.g, .string pA.a, .string pA.t, .string pA.c, .string pA.v, .int .i64 pA.sc, .string ⟨#[]⟩, .string ⟨#[]⟩, .string ⟨#[]⟩, .string ⟨#[]⟩, .string ⟨#[]⟩, .int .i64 0] = w2 at hP hbel ⊢
  clear hcell hHeld
  go_upto_region 4 with fail
  have hcell := (HLKB.out.below hbel HV.out).2.2.2
  refine wp_region_held_drew (S := (fun w' => w'.cell? ⟨HB, 3, none⟩ = some (.slice (some bB) lB.length pcB) ∧ Below V w w')) (by kernel_rfl) (by (try dsimp only); exact ⟨hcell, hbel.drew⟩) (fun hHeld => ?_)
  refine wpAnyH_take (i := 0) (v := ?_) (by (simp only [List.getElem?_toArray, List.getElem?_cons_succ, List.getElem?_cons_zero]; rfl)) (by kernel_rfl) (by kernel_rfl) (by kernel_rfl) (by intro _ _ _ h; exact h) (Or.inl ⟨by rfl, ?_⟩) (by assumption) ?_
  rotate_left
  · (intro w hSw; (try dsimp only at hSw); go_simp; try (with_reducible rfl))
  simp only [Act.put, List.setIfInBounds_toArray, List.set_cons_zero, List.set_cons_succ]
  refine wpAnyH_take (i := 1) (v := ?_) (by (simp only [List.getElem?_toArray, List.getElem?_cons_succ, List.getElem?_cons_zero]; rfl)) (by kernel_rfl) (by kernel_rfl) (by kernel_rfl) (by intro _ _ _ h; exact h) (Or.inl ⟨by rfl, ?_⟩) (by assumption) ?_
  rotate_left
  · (intro w hSw; (try dsimp only at hSw); go_simp; try (with_reducible rfl))
  simp only [Act.put, List.setIfInBounds_toArray, List.set_cons_zero, List.set_cons_succ]
  refine wpAnyH_take (i := 2) (v := ?_) (by (simp only [List.getElem?_toArray, List.getElem?_cons_succ, List.getElem?_cons_zero]; rfl)) (by kernel_rfl) (by kernel_rfl) (by kernel_rfl) (by intro _ _ _ h; exact h) (Or.inl ⟨by rfl, ?_⟩) (by assumption) ?_
  rotate_left
  · (intro w hSw; (try dsimp only at hSw); go_simp; try (with_reducible rfl))
  simp only [Act.put, List.setIfInBounds_toArray, List.set_cons_zero, List.set_cons_succ]
  refine wpAnyH_take (i := 3) (v := ?_) (by (simp only [List.getElem?_toArray, List.getElem?_cons_succ, List.getElem?_cons_zero]; rfl)) (by kernel_rfl) (by kernel_rfl) (by kernel_rfl) (by intro _ _ _ h; exact h) (Or.inl ⟨by rfl, ?_⟩) (by assumption) ?_
  rotate_left
  · (intro w hSw; (try dsimp only at hSw); go_simp; try (with_reducible rfl))
  simp only [Act.put, List.setIfInBounds_toArray, List.set_cons_zero, List.set_cons_succ]
  refine wpAnyH_take (i := 4) (v := ?_) (by (simp only [List.getElem?_toArray, List.getElem?_cons_succ, List.getElem?_cons_zero]; rfl)) (by kernel_rfl) (by kernel_rfl) (by kernel_rfl) (by intro _ _ _ h; exact h) (Or.inl ⟨by rfl, ?_⟩) (by assumption) ?_
  rotate_left
  · (intro w hSw; (try dsimp only at hSw); go_simp; try (with_reducible rfl))
  simp only [Act.put, List.setIfInBounds_toArray, List.set_cons_zero, List.set_cons_succ]
  refine wpAnyH_take (i := 5) (v := _) (by (simp only [List.getElem?_toArray, List.getElem?_cons_succ, List.getElem?_cons_zero]; rfl)) (by kernel_rfl) (by kernel_rfl) (by kernel_rfl) (by intro _ _ _ h; exact h) (yields_load_key (by rfl) _ rfl (bB.add (nB * 6)) rfl pB.key (fun w h => (HPRB.out.below h.2 HV.out).keyR)) (by assumption) ?_
  simp only [Act.put, List.setIfInBounds_toArray, List.set_cons_zero, List.set_cons_succ]
  refine wpAnyH_take (i := 6) (v := ?_) (by (simp only [List.getElem?_toArray, List.getElem?_cons_succ, List.getElem?_cons_zero]; rfl)) (by kernel_rfl) (by kernel_rfl) (by kernel_rfl) (by intro _ _ _ h; exact h) (Or.inl ⟨by rfl, ?_⟩) (by assumption) ?_
  rotate_left
  · (intro w hSw; (try dsimp only at hSw); go_simp; try (with_reducible rfl))
  simp only [Act.put, List.setIfInBounds_toArray, List.set_cons_zero, List.set_cons_succ]
  refine wpAnyH_take (i := 7) (v := ?_) (by (simp only [List.getElem?_toArray, List.getElem?_cons_succ, List.getElem?_cons_zero]; rfl)) (by kernel_rfl) (by kernel_rfl) (by kernel_rfl) (by intro _ _ _ h; exact h) (Or.inl ⟨by rfl, ?_⟩) (by assumption) ?_
  rotate_left
  · (intro w hSw; (try dsimp only at hSw); go_simp; try (with_reducible rfl))
  simp only [Act.put, List.setIfInBounds_toArray, List.set_cons_zero, List.set_cons_succ]
  refine wpAnyH_take (i := 8) (v := ?_) (by (simp only [List.getElem?_toArray, List.getElem?_cons_succ, List.getElem?_cons_zero]; rfl)) (by kernel_rfl) (by kernel_rfl) (by kernel_rfl) (by intro _ _ _ h; exact h) (Or.inl ⟨by rfl, ?_⟩) (by assumption) ?_
  rotate_left
  · (intro w hSw; (try dsimp only at hSw); go_simp; try (with_reducible rfl))
  simp only [Act.put, List.setIfInBounds_toArray, List.set_cons_zero, List.set_cons_succ]
  refine wpAnyH_take (i := 9) (v := ?_) (by (simp only [List.getElem?_toArray, List.getElem?_cons_succ, List.getElem?_cons_zero]; rfl)) (by kernel_rfl) (by kernel_rfl) (by kernel_rfl) (by intro _ _ _ h; exact h) (Or.inl ⟨by rfl, ?_⟩) (by assumption) ?_
  rotate_left
  · (intro w hSw; (try dsimp only at hSw); go_simp; try (with_reducible rfl))
  simp only [Act.put, List.setIfInBounds_toArray, List.set_cons_zero, List.set_cons_succ]
  refine wpAnyH_take (i := 10) (v := _) (by (simp only [List.getElem?_toArray, List.getElem?_cons_succ, List.getElem?_cons_zero]; rfl)) (by kernel_rfl) (by kernel_rfl) (by kernel_rfl) (by intro _ _ _ h; exact h) (yields_load_pin (by rfl) _ rfl (bB.add (nB * 6)) rfl pB (fun w h => HPRB.out.below h.2 HV.out)) (by assumption) ?_
  simp only [Act.put, List.setIfInBounds_toArray, List.set_cons_zero, List.set_cons_succ]
  refine wpAnyH_take (i := 11) (v := ?_) (by (simp only [List.getElem?_toArray, List.getElem?_cons_succ, List.getElem?_cons_zero]; rfl)) (by kernel_rfl) (by kernel_rfl) (by kernel_rfl) (by intro _ _ _ h; exact h) (Or.inl ⟨by rfl, ?_⟩) (by assumption) ?_
  rotate_left
  · (intro w hSw; (try dsimp only at hSw); go_simp; try (with_reducible rfl))
  simp only [Act.put, List.setIfInBounds_toArray, List.set_cons_zero, List.set_cons_succ]
  have HP0 := Lib.hid (show EdP w2.drew V ⟨pA.key, true, false, pA, zP⟩ from hP)
  clear hP hbel
  refine wpAnyH_ready (rs := [12]) (by kernel_rfl) (by simp) ?_
  refine AllReadyH.cons (by (simp only [List.getElem?_toArray, List.getElem?_cons_succ, List.getElem?_cons_zero]; rfl)) (fun K hK => ?_) AllReadyH.nil
  refine wp_store_part 46 _ _ rfl V 0 (.agg #[.string pB.g, .string pB.a, .string pB.t, .string pB.c]) #[.string pB.g, .string pB.a, .string pB.t, .string pB.c] rfl rfl rfl 50 _ HP0.out (by kernel_rfl) (by simp) (by simp [Value.oneCell']) #[.string pB.g, .string pB.a, .string pB.t, .string pB.c, .bool true, .bool false, .string pA.g, .string pA.a, .string pA.t, .string pA.c, .string pA.v, .int .i64 pA.sc, .string ⟨#[]⟩, .string ⟨#[]⟩, .string ⟨#[]⟩, .string ⟨#[]⟩, .string ⟨#[]⟩, .int .i64 0] rfl ?_
  have HP1 := Lib.hid (show EdP _ V ⟨pB.key, true, false, pA, zP⟩ from setRow_heap _ V _ #[.string pB.g, .string pB.a, .string pB.t, .string pB.c, .bool true, .bool false, .string pA.g, .string pA.a, .string pA.t, .string pA.c, .string pA.v, .int .i64 pA.sc, .string ⟨#[]⟩, .string ⟨#[]⟩, .string ⟨#[]⟩, .string ⟨#[]⟩, .string ⟨#[]⟩, .int .i64 0] _ _ HP0.out)
  refine hK.out _ _ ⟨(cell_setRow_other _ V _ _ HNEB.out).trans hHeld.1, below_setRow hHeld.2 (Nat.le_refl V)⟩ (fun hHeld => ?_)
  clear hK K
  try simp only [Act.put, List.setIfInBounds_toArray, List.set_cons_zero, List.set_cons_succ]
  refine wpAnyH_take (i := 13) (v := ?_) (by (simp only [List.getElem?_toArray, List.getElem?_cons_succ, List.getElem?_cons_zero]; rfl)) (by kernel_rfl) (by kernel_rfl) (by kernel_rfl) (by intro _ _ _ h; exact h) (Or.inl ⟨by rfl, ?_⟩) (by assumption) ?_
  rotate_left
  · (intro w hSw; (try dsimp only at hSw); go_simp; try (with_reducible rfl))
  simp only [Act.put, List.setIfInBounds_toArray, List.set_cons_zero, List.set_cons_succ]
  refine wpAnyH_ready (rs := [14]) (by kernel_rfl) (by simp) ?_
  refine AllReadyH.cons (by (simp only [List.getElem?_toArray, List.getElem?_cons_succ, List.getElem?_cons_zero]; rfl)) (fun K hK => ?_) AllReadyH.nil
  refine wp_store_part 4 _ _ rfl V 5 (.bool true) #[.bool true] rfl rfl rfl 50 _ HP1.out (by kernel_rfl) (by simp) (by simp [Value.oneCell']) #[.string pB.g, .string pB.a, .string pB.t, .string pB.c, .bool true, .bool true, .string pA.g, .string pA.a, .string pA.t, .string pA.c, .string pA.v, .int .i64 pA.sc, .string ⟨#[]⟩, .string ⟨#[]⟩, .string ⟨#[]⟩, .string ⟨#[]⟩, .string ⟨#[]⟩, .int .i64 0] rfl ?_
  have HP2 := Lib.hid (show EdP _ V ⟨pB.key, true, true, pA, zP⟩ from setRow_heap _ V _ #[.string pB.g, .string pB.a, .string pB.t, .string pB.c, .bool true, .bool true, .string pA.g, .string pA.a, .string pA.t, .string pA.c, .string pA.v, .int .i64 pA.sc, .string ⟨#[]⟩, .string ⟨#[]⟩, .string ⟨#[]⟩, .string ⟨#[]⟩, .string ⟨#[]⟩, .int .i64 0] _ _ HP1.out)
  refine hK.out _ _ ⟨(cell_setRow_other _ V _ _ HNEB.out).trans hHeld.1, below_setRow hHeld.2 (Nat.le_refl V)⟩ (fun hHeld => ?_)
  clear hK K
  try simp only [Act.put, List.setIfInBounds_toArray, List.set_cons_zero, List.set_cons_succ]
  refine wpAnyH_take (i := 15) (v := ?_) (by (simp only [List.getElem?_toArray, List.getElem?_cons_succ, List.getElem?_cons_zero]; rfl)) (by kernel_rfl) (by kernel_rfl) (by kernel_rfl) (by intro _ _ _ h; exact h) (Or.inl ⟨by rfl, ?_⟩) (by assumption) ?_
  rotate_left
  · (intro w hSw; (try dsimp only at hSw); go_simp; try (with_reducible rfl))
  simp only [Act.put, List.setIfInBounds_toArray, List.set_cons_zero, List.set_cons_succ]
  refine wpAnyH_ready (rs := [16]) (by kernel_rfl) (by simp) ?_
  refine AllReadyH.cons (by (simp only [List.getElem?_toArray, List.getElem?_cons_succ, List.getElem?_cons_zero]; rfl)) (fun K hK => ?_) AllReadyH.nil
  refine wp_store_part 48 _ _ rfl V 12 (.agg #[.string pB.g, .string pB.a, .string pB.t, .string pB.c, .string pB.v, .int .i64 pB.sc]) #[.string pB.g, .string pB.a, .string pB.t, .string pB.c, .string pB.v, .int .i64 pB.sc] rfl rfl rfl 50 _ HP2.out (by kernel_rfl) (by simp) (by simp [Value.oneCell']) #[.string pB.g, .string pB.a, .string pB.t, .string pB.c, .bool true, .bool true, .string pA.g, .string pA.a, .string pA.t, .string pA.c, .string pA.v, .int .i64 pA.sc, .string pB.g, .string pB.a, .string pB.t, .string pB.c, .string pB.v, .int .i64 pB.sc] rfl ?_
  have HP3 := Lib.hid (show EdP _ V ⟨pB.key, true, true, pA, pB⟩ from setRow_heap _ V _ #[.string pB.g, .string pB.a, .string pB.t, .string pB.c, .bool true, .bool true, .string pA.g, .string pA.a, .string pA.t, .string pA.c, .string pA.v, .int .i64 pA.sc, .string pB.g, .string pB.a, .string pB.t, .string pB.c, .string pB.v, .int .i64 pB.sc] _ _ HP2.out)
  refine hK.out _ _ ⟨(cell_setRow_other _ V _ _ HNEB.out).trans hHeld.1, below_setRow hHeld.2 (Nat.le_refl V)⟩ (fun hHeld => ?_)
  clear hK K
  try simp only [Act.put, List.setIfInBounds_toArray, List.set_cons_zero, List.set_cons_succ]
  refine wpAnyH_done (by kernel_rfl) ?_ _
  have hP := HP3.out
  have hbel := hHeld.2
  clear HP0 HP1 HP2 HP3
  generalize ((w2.drew.setRow V #[.string pB.g, .string pB.a, .string pB.t, .string pB.c, .bool true, .bool false, .string pA.g, .string pA.a, .string pA.t, .string pA.c, .string pA.v, .int .i64 pA.sc, .string ⟨#[]⟩, .string ⟨#[]⟩, .string ⟨#[]⟩, .string ⟨#[]⟩, .string ⟨#[]⟩, .int .i64 0]).setRow V #[.string pB.g, .string pB.a, .string pB.t, .string pB.c, .bool true, .bool true, .string pA.g, .string pA.a, .string pA.t, .string pA.c, .string pA.v, .int .i64 pA.sc, .string ⟨#[]⟩, .string ⟨#[]⟩, .string ⟨#[]⟩, .string ⟨#[]⟩, .string ⟨#[]⟩, .int .i64 0]).setRow V #[.string pB.g, .string pB.a, .string pB.t, .string pB.c, .bool true, .bool true, .string pA.g, .string pA.a, .string pA.t, .string pA.c, .string pA.v, .int .i64 pA.sc, .string pB.g, .string pB.a, .string pB.t, .string pB.c, .string pB.v, .int .i64 pB.sc] = w4 at hP hbel ⊢
  clear hcell hHeld
  have HPF := Lib.hid hP
  have HBF := Lib.hid hbel
  obtain ⟨y0, y1, y2, y3, y4, y5, y6, y7, y8, y9, y10, y11, y12, y13, y14, y15, y16, y17⟩ := hP.cells
  clear hP hbel
  have heq := fun w => neq_pin pA pB w
  rcases hOF with ⟨hs, hof⟩ | ⟨hs, hof⟩
  · have HOF := Lib.hid hof
    clear hof
    rw [hs] at heq
    clear hs
    go_wp2
    go_end0
    refine ⟨rfl, r, ?_, Stp.of_below (by rw [HVE.out]; exact HBF.out)⟩
    rw [HOF.out]
    simpa using HGI.out.below (by rw [HVE.out]; exact HBF.out)
  · have HOF := Lib.hid hof
    clear hof
    rw [hs] at heq
    clear hs
    obtain ⟨v, hv, hown, hrv⟩ := HGI.out.row
    have hLV : L < V := by have h1 := HGI.out.lt; have h2 := HGI.out.bs; have h3 := HVE.out; omega
    have hL2 : w4.heap[L]? = some (Obj.cells #[v] 29 (0, 0)) := (HBF.out.block L hLV).trans hv
    have hown2 : w4.ownsRow (L + 1) 50 18 v out.length (rowE out) := own_same hown fun g hg => HBF.out.block g (by have := (hown.lt g hg).2; have h3 := HVE.out; omega)
    have hc0 : w4.cell? ⟨L, 0, none⟩ = some v := by rw [cell_of_row w4 L 0 _ _ (0, 0) hL2]; rfl
    have hvL : v.ownBlock ≠ some L := fun e => by have := (hown.lt L e).1; omega
    have HFR := Lib.hid (fun (w3 : World) (hg : w4.grownBy w3 v.ownBlock) => show w3.frozen? ⟨L, 0, none⟩ = false ∧ w3.heap[L]? = some (Obj.cells #[v] 29 (0, 0)) from by
      have h3 : w3.heap[L]? = some (Obj.cells #[v] 29 (0, 0)) := (hg.block L (by have := HBF.out.size; have h3 := HVE.out; omega) (fun e => hvL e.symm)).trans hL2
      exact ⟨frozen_of_row w3 L 0 _ _ h3, h3⟩)
    have HOWN := Lib.hid hown
    have HOWN2 := Lib.hid hown2
    have HRV := Lib.hid hrv
    have HVV := Lib.hid hv
    have hsz2 : L + 1 ≤ w4.heap.size := by have := HBF.out.size; have h3 := HVE.out; omega
    have HSZ2 := Lib.hid hsz2
    clear hown hown2 hrv hv hL2 hvL hsz2
    go_wp2_with (first
      | (refine wpList_load_ed rfl _ rfl _ rfl ⟨pB.key, true, true, pA, pB⟩ HPF.out.edR ?_)
      | (at_builtin
         refine app18e ⟨pB.key, true, true, pA, pB⟩ rfl _ _ 29 50 rfl _ 248 (L + 1) out.length Try.underlying29 ed_info rfl v _ rfl HOWN2.out (by simp [Act.eval]) (by omega) (by omega) HSZ2.out ?_))
    intro v' w3 ho3 hg3 hne3
    obtain ⟨f1, hL3⟩ := HFR.out w3 hg3
    have hL4 : (w3.setCell ⟨L, 0, none⟩ v').heap[L]? = some (mkE v') := by
      have := heap_setCell_same w3 L 0 #[v] 29 v' hL3
      show _ = some (Obj.cells #[v'] 29 (0, 0))
      simpa using this
    have HFIN := Lib.hid (HGI.out.add HVV.out HRV.out HOWN.out (w1 := w4) (w3 := w3.setCell ⟨L, 0, none⟩ v') (by rw [HVE.out]; exact HBF.out) ho3 hg3 hne3 ⟨rfl, rfl, rfl, by simp, fun k _ hk => heap_setCell_other w3 ⟨L, 0, none⟩ k v' (fun e => hk (by simp [e]))⟩ hL4)
    have hc3 : w3.cell? ⟨L, 0, none⟩ = some v := by rw [cell_of_row w3 L 0 _ _ (0, 0) hL3]; rfl
    obtain ⟨g1, cap1, rfl⟩ : ∃ g cap, v' = .slice (some ⟨g, 0, none⟩) (out.length + 1) cap := by
      rcases ho3.2 with ⟨_, h0⟩ | ⟨g, cap, cur, hv, _⟩
      · omega
      · exact ⟨g, cap, hv⟩
    clear ho3 hg3 hne3 hL3 hL4 hc0
    go_wp2
    go_end0
    refine ⟨rfl, _, ?_, HFIN.out.2⟩
    rw [HOF.out]
    have h := HFIN.out.1
    rw [← rowE_snoc] at h
    simpa using h
end Go.Proofs.Ytoibanffaebllaa
