/-
  Layer 25: diff.Apply's closure (a pin and an edit). Own work.
-/
import Derived.Test.YtoibanffaebllaaMeetA25b
namespace Go.Proofs.Ytoibanffaebllaa
set_option linter.unusedVariables false
set_option linter.unusedSimpArgs false
open Go.RowKit

set_option maxRecDepth 100000 in
set_option maxHeartbeats 8000000 in
theorem meetA_both (HA : Nat) (HE : Nat) (L : Nat) (w0 w : World) (g a u : ByteArray) (out : List Pn) (r : Option Nat) (f : Bool)
    (hgi : GI L (L + 2) (mkL g a u) 48 6 w0 out.length (rowN out) r w) (hfit : FitAt L f w) (hlen : out.length ≤ 2000000) (vE : Value) (lE : List Ed) (ek : K4) (had has : Bool) (old new : Pn) (nE : Nat) (hE : lE[nE]? = some ⟨ek, had, has, old, new⟩) (hnE : nE ≤ 1000000) (hcE : w0.cell? ⟨HE, 0, none⟩ = some vE) (hrE : RdE w0 vE lE) (gA aA vA : ByteArray) (pvA : Value) (lA : List Pn) (pA : Pn) (nA : Nat) (hpA : lA[nA]? = some pA) (hnA : nA ≤ 1000000) (hlkA : LkIn w0 HA gA aA vA pvA) (hrA : RdN w0 pvA lA) :
    Calls Try.prog 35 #[.int .i64 nA, .int .i64 nE, .pointer (some ⟨L, 0, none⟩), .pointer (some ⟨HA, 0, none⟩), .pointer (some ⟨HE, 0, none⟩), .pointer (some ⟨L + 1, 0, none⟩)] w (AddA L (mkL g a u) w0 (out ++ (apF (some pA) (some ⟨ek, had, has, old, new⟩)).toList) (f && fitB (some pA) (some ⟨ek, had, has, old, new⟩)) r w) := by
  have hbw := hgi.b
  have hsz := hgi.sz
  have hrA0 := hrA
  obtain ⟨paA, pcA, rfl⟩ := hrA.shape
  have HRA := Lib.hid (hrA.below hbw (by omega))
  have hlk1A := hlkA.below hbw (by omega)
  obtain ⟨bA, rfl, _, hl1A, hl2A, hcA⟩ := HRA.out.elem hpA
  have HPRA := Lib.hid (RdN.atR hcA hpA (Below.refl w.heap.size w) (Nat.le_refl _))
  have hilA : (nA : Int) < lA.length := by have := (List.getElem?_eq_some_iff.1 hpA).1; omega
  have hn0A : (0 : Int) ≤ nA := by omega
  have hnatA : nA < lA.length := (List.getElem?_eq_some_iff.1 hpA).1
  have HLTA := Lib.hid (show HA < w.heap.size from World.block_lt_of_cell? w _ hlk1A.1)
  have HLKA := Lib.hid hlk1A
  have HNEA := Lib.hid (show (⟨HA, 3, none⟩ : Addr).block ≠ w.heap.size from by have := HLTA.out; simp only; omega)
  obtain ⟨b0, hb0, _, _, _, hc0⟩ := hrA0.elem hpA
  obtain rfl : bA = b0 := Option.some.inj hb0
  have HLT1 := Lib.hid (show HA < L from by have : HA < w0.heap.size := World.block_lt_of_cell? w0 _ hlkA.1; omega)
  have HBA := Lib.hid (show bA.block < L from by have := World.block_lt_of_cell? w0 _ (hc0 nA pA hpA 0 _ rfl); rw [add_block] at this; omega)
  clear hcA hrA hrA0 hlkA hlk1A hpA hc0 hb0
  have hAP : apF (some pA) (some ⟨ek, had, has, old, new⟩) = if has = true then some new else none := by cases has <;> rfl
  have hFB : fitB (some pA) (some ⟨ek, had, has, old, new⟩) = (had && sameP old pA) := rfl
  rw [hAP, hFB]
  clear hAP hFB
  have heq0 := fun w => eq_pin old pA w
  generalize sameP old pA = bs at heq0 ⊢
  have HEQ := Lib.hid heq0
  clear heq0
  obtain ⟨pa, pc, rfl⟩ := hrE.shape
  have HRE := Lib.hid (hrE.below hbw (by omega))
  obtain ⟨b, rfl, _, hl1, hl2, hc⟩ := HRE.out.elem hE
  have HER := Lib.hid (RdE.atR hc hE (Below.refl w.heap.size w) (Nat.le_refl _))
  have hcE1 : w.cell? ⟨HE, 0, none⟩ = some (.slice (some b) lE.length pc) := (hbw.cell (p := ⟨HE, 0, none⟩) (by have : HE < w0.heap.size := World.block_lt_of_cell? w0 _ hcE; simp only; omega)).trans hcE
  have hil : (nE : Int) < lE.length := by have := (List.getElem?_eq_some_iff.1 hE).1; omega
  have hn0 : (0 : Int) ≤ nE := by omega
  have hnat : nE < lE.length := (List.getElem?_eq_some_iff.1 hE).1
  have hbs := hgi.bs
  have hb1 : Below w.heap.size w (w.alloc (.cells #[.string ek.g, .string ek.a, .string ek.t, .string ek.c, .bool had, .bool has, .string old.g, .string old.a, .string old.t, .string old.c, .string old.v, .int .i64 old.sc, .string new.g, .string new.a, .string new.t, .string new.c, .string new.v, .int .i64 new.sc] 50)) := (Below.refl _ _).alloc (Nat.le_refl _) _
  have hP : EdP (w.alloc (.cells #[.string ek.g, .string ek.a, .string ek.t, .string ek.c, .bool had, .bool has, .string old.g, .string old.a, .string old.t, .string old.c, .string old.v, .int .i64 old.sc, .string new.g, .string new.a, .string new.t, .string new.c, .string new.v, .int .i64 new.sc] 50)) w.heap.size ⟨ek, had, has, old, new⟩ := heap_alloc_new w _
  have hG1 := hgi.below hb1
  have hF1 := hfit.below hb1 hbs
  have HST1 := Lib.hid (Stp.of_below (Bs := L + 2) (r := r) hb1)
  have HLN := Lib.hid hlen
  have h3A := (HLKA.out.below hb1 (Nat.le_refl _)).2.2.2
  have hpA1 : PinR (w.alloc (.cells #[.string ek.g, .string ek.a, .string ek.t, .string ek.c, .bool had, .bool has, .string old.g, .string old.a, .string old.t, .string old.c, .string old.v, .int .i64 old.sc, .string new.g, .string new.a, .string new.t, .string new.c, .string new.v, .int .i64 new.sc] 50)) (bA.add (nA * 6)) pA := HPRA.out.below hb1 (Nat.le_refl _)
  have HVL := Lib.hid (show L + 2 ≤ w.heap.size from hbs)
  clear hc hrE hcE hE hbw hsz hgi hfit hbs hlen
  go_enter Try.func35, Try.ntmps35
  go_upto_region 3 with (first
    | (refine wpList_load_ed rfl _ rfl _ rfl ⟨ek, had, has, old, new⟩ HER.out ?_)
    | (refine wpList_store_ed rfl _ _ rfl _ rfl rfl ⟨ek, had, has, old, new⟩ rfl ?_))
  generalize w.alloc (.cells #[.string ek.g, .string ek.a, .string ek.t, .string ek.c, .bool had, .bool has, .string old.g, .string old.a, .string old.t, .string old.c, .string old.v, .int .i64 old.sc, .string new.g, .string new.a, .string new.t, .string new.c, .string new.v, .int .i64 new.sc] 50) = w1 at hb1 hP hG1 hF1 HST1 h3A hpA1 ⊢
  generalize w.heap.size = V at hb1 hP HVL ⊢
  have HP := Lib.hid hP
  have HG1 := Lib.hid hG1
  have HF1 := Lib.hid (show FitAt L f w1.drew from hF1)
  have hcf : w1.cell? ⟨L + 1, 0, none⟩ = some (.bool f) := by rw [cell_of_row w1 (L + 1) 0 _ _ (0, 0) hF1]; rfl
  have hc4 : w1.cell? ⟨V, 4, none⟩ = some (.bool had) := by rw [cell_of_row w1 V 4 _ _ (0, 0) hP]; rfl
  have hpo : PinR w1 ⟨V, 6, none⟩ old := fun c u hu => by
    have h6 : c < 6 := by have := (List.getElem?_eq_some_iff.1 hu).1; simpa [pnCells] using this
    rw [show (⟨V, 6, none⟩ : Addr).add c = ⟨V, 6 + c, none⟩ from by unfold Addr.add; split <;> simp_all, cell_of_row w1 V (6 + c) _ _ (0, 0) hP]
    match c, h6 with
    | 0, _ => exact hu
    | 1, _ => exact hu
    | 2, _ => exact hu
    | 3, _ => exact hu
    | 4, _ => exact hu
    | 5, _ => exact hu
  clear hP hG1 hF1 hcE1
  cases f
  · cases had
    · refine wp_region_held_drew (S := (fun w' => w'.cell? ⟨V, 4, none⟩ = some (.bool false) ∧ w'.cell? ⟨HA, 3, none⟩ = some (.slice (some bA) lA.length pcA) ∧ PinR w' ⟨V, 6, none⟩ old ∧ PinR w' (bA.add (nA * 6)) pA)) (by kernel_rfl) (by (try dsimp only); exact ⟨hc4, h3A, hpo, hpA1⟩) (fun hHeld => ?_)
      refine wpAnyH_ready (rs := [0]) (by kernel_rfl) (by simp) ?_
      refine AllReadyH.cons (by (simp only [List.getElem?_toArray, List.getElem?_cons_succ, List.getElem?_cons_zero]; rfl)) (fun K hK => ?_) AllReadyH.nil
      go_simp
      refine hK.out _ _ hHeld (fun hHeld => ?_)
      clear hK K
      try simp only [Act.put, List.setIfInBounds_toArray, List.set_cons_zero, List.set_cons_succ]
      refine wpAnyH_take (i := 1) (v := ?_) (by (simp only [List.getElem?_toArray, List.getElem?_cons_succ, List.getElem?_cons_zero]; rfl)) (by kernel_rfl) (by kernel_rfl) (by kernel_rfl) (by intro _ _ _ h; exact h) (Or.inl ⟨by rfl, ?_⟩) (by assumption) ?_
      rotate_left
      · (intro w hSw; (try dsimp only at hSw); go_simp; try (with_reducible rfl))
      simp only [Act.put, List.setIfInBounds_toArray, List.set_cons_zero, List.set_cons_succ]
      refine wpAnyH_take (i := 2) (v := undef) (by (simp only [List.getElem?_toArray, List.getElem?_cons_succ, List.getElem?_cons_zero]; rfl)) (by kernel_rfl) (by kernel_rfl) (by kernel_rfl) (by intro _ _ _ h; exact h) (Or.inr ⟨by rfl, rfl⟩) (by assumption) ?_
      simp only [Act.put, List.setIfInBounds_toArray, List.set_cons_zero, List.set_cons_succ]
      refine wpAnyH_take (i := 3) (v := undef) (by (simp only [List.getElem?_toArray, List.getElem?_cons_succ, List.getElem?_cons_zero]; rfl)) (by kernel_rfl) (by kernel_rfl) (by kernel_rfl) (by intro _ _ _ h; exact h) (Or.inr ⟨by rfl, rfl⟩) (by assumption) ?_
      simp only [Act.put, List.setIfInBounds_toArray, List.set_cons_zero, List.set_cons_succ]
      refine wpAnyH_take (i := 4) (v := undef) (by (simp only [List.getElem?_toArray, List.getElem?_cons_succ, List.getElem?_cons_zero]; rfl)) (by kernel_rfl) (by kernel_rfl) (by kernel_rfl) (by intro _ _ _ h; exact h) (Or.inr ⟨by rfl, rfl⟩) (by assumption) ?_
      simp only [Act.put, List.setIfInBounds_toArray, List.set_cons_zero, List.set_cons_succ]
      refine wpAnyH_take (i := 5) (v := undef) (by (simp only [List.getElem?_toArray, List.getElem?_cons_succ, List.getElem?_cons_zero]; rfl)) (by kernel_rfl) (by kernel_rfl) (by kernel_rfl) (by intro _ _ _ h; exact h) (Or.inr ⟨by rfl, rfl⟩) (by assumption) ?_
      simp only [Act.put, List.setIfInBounds_toArray, List.set_cons_zero, List.set_cons_succ]
      refine wpAnyH_take (i := 6) (v := undef) (by (simp only [List.getElem?_toArray, List.getElem?_cons_succ, List.getElem?_cons_zero]; rfl)) (by kernel_rfl) (by kernel_rfl) (by kernel_rfl) (by intro _ _ _ h; exact h) (Or.inr ⟨by rfl, rfl⟩) (by assumption) ?_
      simp only [Act.put, List.setIfInBounds_toArray, List.set_cons_zero, List.set_cons_succ]
      refine wpAnyH_take (i := 7) (v := ?_) (by (simp only [List.getElem?_toArray, List.getElem?_cons_succ, List.getElem?_cons_zero]; rfl)) (by kernel_rfl) (by kernel_rfl) (by kernel_rfl) (by intro _ _ _ h; exact h) (Or.inl ⟨by rfl, ?_⟩) (by assumption) ?_
      rotate_left
      · (intro w hSw; (try dsimp only at hSw); go_simp; try (with_reducible rfl))
      simp only [Act.put, List.setIfInBounds_toArray, List.set_cons_zero, List.set_cons_succ]
      refine wpAnyH_take (i := 8) (v := ?_) (by (simp only [List.getElem?_toArray, List.getElem?_cons_succ, List.getElem?_cons_zero]; rfl)) (by kernel_rfl) (by kernel_rfl) (by kernel_rfl) (by intro _ _ _ h; exact h) (Or.inl ⟨by rfl, ?_⟩) (by assumption) ?_
      rotate_left
      · (intro w hSw; (try dsimp only at hSw); go_simp; try (with_reducible rfl))
      simp only [Act.put, List.setIfInBounds_toArray, List.set_cons_zero, List.set_cons_succ]
      refine wpAnyH_take (i := 9) (v := undef) (by (simp only [List.getElem?_toArray, List.getElem?_cons_succ, List.getElem?_cons_zero]; rfl)) (by kernel_rfl) (by kernel_rfl) (by kernel_rfl) (by intro _ _ _ h; exact h) (Or.inr ⟨by rfl, rfl⟩) (by assumption) ?_
      simp only [Act.put, List.setIfInBounds_toArray, List.set_cons_zero, List.set_cons_succ]
      refine wpAnyH_take (i := 10) (v := undef) (by (simp only [List.getElem?_toArray, List.getElem?_cons_succ, List.getElem?_cons_zero]; rfl)) (by kernel_rfl) (by kernel_rfl) (by kernel_rfl) (by intro _ _ _ h; exact h) (Or.inr ⟨by rfl, rfl⟩) (by assumption) ?_
      simp only [Act.put, List.setIfInBounds_toArray, List.set_cons_zero, List.set_cons_succ]
      refine wpAnyH_take (i := 11) (v := undef) (by (simp only [List.getElem?_toArray, List.getElem?_cons_succ, List.getElem?_cons_zero]; rfl)) (by kernel_rfl) (by kernel_rfl) (by kernel_rfl) (by intro _ _ _ h; exact h) (Or.inr ⟨by rfl, rfl⟩) (by assumption) ?_
      simp only [Act.put, List.setIfInBounds_toArray, List.set_cons_zero, List.set_cons_succ]
      refine wpAnyH_take (i := 12) (v := undef) (by (simp only [List.getElem?_toArray, List.getElem?_cons_succ, List.getElem?_cons_zero]; rfl)) (by kernel_rfl) (by kernel_rfl) (by kernel_rfl) (by intro _ _ _ h; exact h) (Or.inr ⟨by rfl, rfl⟩) (by assumption) ?_
      simp only [Act.put, List.setIfInBounds_toArray, List.set_cons_zero, List.set_cons_succ]
      refine wpAnyH_take (i := 13) (v := undef) (by (simp only [List.getElem?_toArray, List.getElem?_cons_succ, List.getElem?_cons_zero]; rfl)) (by kernel_rfl) (by kernel_rfl) (by kernel_rfl) (by intro _ _ _ h; exact h) (Or.inr ⟨by rfl, rfl⟩) (by assumption) ?_
      simp only [Act.put, List.setIfInBounds_toArray, List.set_cons_zero, List.set_cons_succ]
      refine wpAnyH_take (i := 14) (v := undef) (by (simp only [List.getElem?_toArray, List.getElem?_cons_succ, List.getElem?_cons_zero]; rfl)) (by kernel_rfl) (by kernel_rfl) (by kernel_rfl) (by intro _ _ _ h; exact h) (Or.inr ⟨by rfl, rfl⟩) (by assumption) ?_
      simp only [Act.put, List.setIfInBounds_toArray, List.set_cons_zero, List.set_cons_succ]
      refine wpAnyH_take (i := 15) (v := undef) (by (simp only [List.getElem?_toArray, List.getElem?_cons_succ, List.getElem?_cons_zero]; rfl)) (by kernel_rfl) (by kernel_rfl) (by kernel_rfl) (by intro _ _ _ h; exact h) (Or.inr ⟨by rfl, rfl⟩) (by assumption) ?_
      simp only [Act.put, List.setIfInBounds_toArray, List.set_cons_zero, List.set_cons_succ]
      refine wpAnyH_take (i := 16) (v := undef) (by (simp only [List.getElem?_toArray, List.getElem?_cons_succ, List.getElem?_cons_zero]; rfl)) (by kernel_rfl) (by kernel_rfl) (by kernel_rfl) (by intro _ _ _ h; exact h) (Or.inr ⟨by rfl, rfl⟩) (by assumption) ?_
      simp only [Act.put, List.setIfInBounds_toArray, List.set_cons_zero, List.set_cons_succ]
      refine wpAnyH_take (i := 17) (v := undef) (by (simp only [List.getElem?_toArray, List.getElem?_cons_succ, List.getElem?_cons_zero]; rfl)) (by kernel_rfl) (by kernel_rfl) (by kernel_rfl) (by intro _ _ _ h; exact h) (Or.inr ⟨by rfl, rfl⟩) (by assumption) ?_
      simp only [Act.put, List.setIfInBounds_toArray, List.set_cons_zero, List.set_cons_succ]
      refine wpAnyH_take (i := 18) (v := undef) (by (simp only [List.getElem?_toArray, List.getElem?_cons_succ, List.getElem?_cons_zero]; rfl)) (by kernel_rfl) (by kernel_rfl) (by kernel_rfl) (by intro _ _ _ h; exact h) (Or.inr ⟨by rfl, rfl⟩) (by assumption) ?_
      simp only [Act.put, List.setIfInBounds_toArray, List.set_cons_zero, List.set_cons_succ]
      refine wpAnyH_take (i := 19) (v := undef) (by (simp only [List.getElem?_toArray, List.getElem?_cons_succ, List.getElem?_cons_zero]; rfl)) (by kernel_rfl) (by kernel_rfl) (by kernel_rfl) (by intro _ _ _ h; exact h) (Or.inr ⟨by rfl, rfl⟩) (by assumption) ?_
      simp only [Act.put, List.setIfInBounds_toArray, List.set_cons_zero, List.set_cons_succ]
      refine wpAnyH_take (i := 20) (v := undef) (by (simp only [List.getElem?_toArray, List.getElem?_cons_succ, List.getElem?_cons_zero]; rfl)) (by kernel_rfl) (by kernel_rfl) (by kernel_rfl) (by intro _ _ _ h; exact h) (Or.inr ⟨by rfl, rfl⟩) (by assumption) ?_
      simp only [Act.put, List.setIfInBounds_toArray, List.set_cons_zero, List.set_cons_succ]
      refine wpAnyH_take (i := 21) (v := ?_) (by (simp only [List.getElem?_toArray, List.getElem?_cons_succ, List.getElem?_cons_zero]; rfl)) (by kernel_rfl) (by kernel_rfl) (by kernel_rfl) (by intro _ _ _ h; exact h) (Or.inl ⟨by rfl, ?_⟩) (by assumption) ?_
      rotate_left
      · (intro w hSw; (try dsimp only at hSw); go_simp; try (with_reducible rfl))
      simp only [Act.put, List.setIfInBounds_toArray, List.set_cons_zero, List.set_cons_succ]
      refine wpAnyH_ready (rs := [22]) (by kernel_rfl) (by simp) ?_
      refine AllReadyH.cons (by (simp only [List.getElem?_toArray, List.getElem?_cons_succ, List.getElem?_cons_zero]; rfl)) (fun K hK => ?_) AllReadyH.nil
      refine wp_store_part 4 _ _ rfl (L + 1) 0 (.bool false) #[.bool false] rfl rfl rfl 4 _ HF1.out (by kernel_rfl) (by simp) (by simp [Value.oneCell']) #[.bool false] rfl ?_
      have hfar : ∀ {A : Addr} {x : Value}, A.block ≠ L + 1 → w1.cell? A = some x → (w1.drew.setRow (L + 1) #[.bool false]).cell? A = some x := fun {A x} hA h => (cell_setRow_other _ _ _ _ hA).trans h
      refine hK.out _ _ ⟨hfar (by have := HVL.out; simp only; omega) hc4, hfar (by have := HLT1.out; simp only; omega) h3A, fun c u hu => hfar (by have := HVL.out; simp only [add_block]; omega) (hpo c u hu), fun c u hu => hfar (by have := HBA.out; simp only [add_block]; omega) (hpA1 c u hu)⟩ (fun hHeld => ?_)
      clear hK K
      try simp only [Act.put, List.setIfInBounds_toArray, List.set_cons_zero, List.set_cons_succ]
      refine wpAnyH_done (by kernel_rfl) ?_ _
      have hG2 := (HG1.out.below (Below.refl w1.heap.size w1).drew).fit #[.bool false]
      have hF2 : FitAt L false (w1.drew.setRow (L + 1) #[.bool false]) := HF1.out.set false
      have hP2 : EdP (w1.drew.setRow (L + 1) #[.bool false]) V ⟨ek, false, has, old, new⟩ := (setRow_other w1.drew (L + 1) V _ (by have := HVL.out; omega)).trans HP.out
      generalize w1.drew.setRow (L + 1) #[.bool false] = w2 at hG2 hF2 hP2 ⊢
      have HST2 := Lib.hid (HST1.out.trans (Stp.trans (Stp.of_below (Below.refl w1.heap.size w1).drew) hG2.2))
      have HG2 := Lib.hid hG2.1
      have HF2 := Lib.hid hF2
      have HP2 := Lib.hid hP2
      clear hG2 hF2 hfar hHeld hcf hc4 hpo h3A hpA1
      obtain ⟨y0, y1, y2, y3, y4, y5, y6, y7, y8, y9, y10, y11, y12, y13, y14, y15, y16, y17⟩ := hP2.cells
      clear hP2
      cases has
      · go_wp2
        go_end0
        exact ⟨rfl, r, by simpa using HG2.out, by simpa using HF2.out, HST2.out⟩
      · obtain ⟨v, hv, hown, hrv⟩ := HG2.out.row
        have hc3 : w2.cell? ⟨L, 3, none⟩ = some v := by rw [cell_of_row w2 L 3 _ _ (0, 0) hv]; rfl
        have HV := Lib.hid hv
        have HRV := Lib.hid hrv
        have HOWN := Lib.hid hown
        have HLE := Lib.hid (show ∀ k, v.ownBlock = some k → L + 2 ≤ k from fun k hk => (hown.lt k hk).1)
        have HZ2 := Lib.hid HG2.out.bs
        have HFR := Lib.hid (fun (w3 : World) (hg : w2.grownBy w3 v.ownBlock) => show w3.frozen? ⟨L, 3, none⟩ = false ∧ w3.heap[L]? = some (Obj.cells #[.string g, .string a, .string u, v] 26 (0, 0)) from by
          have h3 : w3.heap[L]? = some (Obj.cells #[.string g, .string a, .string u, v] 26 (0, 0)) := (hg.block L (by have := HZ2.out; omega) (fun e => by have := HLE.out L e.symm; omega)).trans HV.out
          exact ⟨frozen_of_row w3 L 3 _ _ h3, h3⟩)
        clear hv hrv hown
        go_wp2_with (at_builtin
                     refine app6p new rfl _ _ 24 48 rfl _ 88 (L + 2) out.length Try.underlying24 pn_info rfl v _ rfl HOWN.out (by simp [Act.eval]) (by have := HLN.out; omega) (by have := HLN.out; omega) HZ2.out ?_)
        intro v' w3 ho3 hg3 hne3
        obtain ⟨f1, hL3⟩ := HFR.out w3 hg3
        have hL4 : (w3.setCell ⟨L, 3, none⟩ v').heap[L]? = some (mkL g a u v') := by
          have := heap_setCell_same w3 L 3 _ _ v' hL3
          show _ = some (Obj.cells #[.string g, .string a, .string u, v'] 26 (0, 0))
          simpa using this
        have h34 : w3.grownBy (w3.setCell ⟨L, 3, none⟩ v') (some L) := ⟨rfl, rfl, rfl, by simp, fun k _ hk => heap_setCell_other w3 ⟨L, 3, none⟩ k v' (fun e => hk (by simp [e]))⟩
        have HFIN := Lib.hid (HG2.out.add HV.out HRV.out HOWN.out (Below.refl _ w2) ho3 hg3 hne3 h34 hL4)
        have HFF := Lib.hid (FitAt.add HF2.out HZ2.out (fun k hk => HLE.out k (by rw [← HRV.out]; exact hk)) (Below.refl _ w2) (by rw [HRV.out]; exact hg3) h34)
        have hc3' : w3.cell? ⟨L, 3, none⟩ = some v := by rw [cell_of_row w3 L 3 _ _ (0, 0) hL3]; rfl
        obtain ⟨g1, cap1, rfl⟩ : ∃ g cap, v' = .slice (some ⟨g, 0, none⟩) (out.length + 1) cap := by
          rcases ho3.2 with ⟨_, h0⟩ | ⟨g, cap, cur, hv, _⟩
          · omega
          · exact ⟨g, cap, hv⟩
        clear ho3 hg3 hne3 hL3 hL4 h34 hc3
        go_wp2
        go_end0
        refine ⟨rfl, _, ?_, by simpa using HFF.out, HST2.out.trans HFIN.out.2⟩
        have h := HFIN.out.1
        rw [← rowN_snoc] at h
        simpa using h
    · refine wp_region_held_drew (S := (fun w' => w'.cell? ⟨V, 4, none⟩ = some (.bool true) ∧ w'.cell? ⟨HA, 3, none⟩ = some (.slice (some bA) lA.length pcA) ∧ PinR w' ⟨V, 6, none⟩ old ∧ PinR w' (bA.add (nA * 6)) pA)) (by kernel_rfl) (by (try dsimp only); exact ⟨hc4, h3A, hpo, hpA1⟩) (fun hHeld => ?_)
      refine wpAnyH_ready (rs := [0]) (by kernel_rfl) (by simp) ?_
      refine AllReadyH.cons (by (simp only [List.getElem?_toArray, List.getElem?_cons_succ, List.getElem?_cons_zero]; rfl)) (fun K hK => ?_) AllReadyH.nil
      go_simp
      refine hK.out _ _ hHeld (fun hHeld => ?_)
      clear hK K
      try simp only [Act.put, List.setIfInBounds_toArray, List.set_cons_zero, List.set_cons_succ]
      refine wpAnyH_take (i := 1) (v := ?_) (by (simp only [List.getElem?_toArray, List.getElem?_cons_succ, List.getElem?_cons_zero]; rfl)) (by kernel_rfl) (by kernel_rfl) (by kernel_rfl) (by intro _ _ _ h; exact h) (Or.inl ⟨by rfl, ?_⟩) (by assumption) ?_
      rotate_left
      · (intro w hSw; (try dsimp only at hSw); go_simp; try (with_reducible rfl))
      simp only [Act.put, List.setIfInBounds_toArray, List.set_cons_zero, List.set_cons_succ]
      refine wpAnyH_take (i := 2) (v := undef) (by (simp only [List.getElem?_toArray, List.getElem?_cons_succ, List.getElem?_cons_zero]; rfl)) (by kernel_rfl) (by kernel_rfl) (by kernel_rfl) (by intro _ _ _ h; exact h) (Or.inr ⟨by rfl, rfl⟩) (by assumption) ?_
      simp only [Act.put, List.setIfInBounds_toArray, List.set_cons_zero, List.set_cons_succ]
      refine wpAnyH_take (i := 3) (v := undef) (by (simp only [List.getElem?_toArray, List.getElem?_cons_succ, List.getElem?_cons_zero]; rfl)) (by kernel_rfl) (by kernel_rfl) (by kernel_rfl) (by intro _ _ _ h; exact h) (Or.inr ⟨by rfl, rfl⟩) (by assumption) ?_
      simp only [Act.put, List.setIfInBounds_toArray, List.set_cons_zero, List.set_cons_succ]
      refine wpAnyH_take (i := 4) (v := undef) (by (simp only [List.getElem?_toArray, List.getElem?_cons_succ, List.getElem?_cons_zero]; rfl)) (by kernel_rfl) (by kernel_rfl) (by kernel_rfl) (by intro _ _ _ h; exact h) (Or.inr ⟨by rfl, rfl⟩) (by assumption) ?_
      simp only [Act.put, List.setIfInBounds_toArray, List.set_cons_zero, List.set_cons_succ]
      refine wpAnyH_take (i := 5) (v := undef) (by (simp only [List.getElem?_toArray, List.getElem?_cons_succ, List.getElem?_cons_zero]; rfl)) (by kernel_rfl) (by kernel_rfl) (by kernel_rfl) (by intro _ _ _ h; exact h) (Or.inr ⟨by rfl, rfl⟩) (by assumption) ?_
      simp only [Act.put, List.setIfInBounds_toArray, List.set_cons_zero, List.set_cons_succ]
      refine wpAnyH_take (i := 6) (v := undef) (by (simp only [List.getElem?_toArray, List.getElem?_cons_succ, List.getElem?_cons_zero]; rfl)) (by kernel_rfl) (by kernel_rfl) (by kernel_rfl) (by intro _ _ _ h; exact h) (Or.inr ⟨by rfl, rfl⟩) (by assumption) ?_
      simp only [Act.put, List.setIfInBounds_toArray, List.set_cons_zero, List.set_cons_succ]
      refine wpAnyH_take (i := 7) (v := ?_) (by (simp only [List.getElem?_toArray, List.getElem?_cons_succ, List.getElem?_cons_zero]; rfl)) (by kernel_rfl) (by kernel_rfl) (by kernel_rfl) (by intro _ _ _ h; exact h) (Or.inl ⟨by rfl, ?_⟩) (by assumption) ?_
      rotate_left
      · (intro w hSw; (try dsimp only at hSw); go_simp; try (with_reducible rfl))
      simp only [Act.put, List.setIfInBounds_toArray, List.set_cons_zero, List.set_cons_succ]
      refine wpAnyH_take (i := 8) (v := ?_) (by (simp only [List.getElem?_toArray, List.getElem?_cons_succ, List.getElem?_cons_zero]; rfl)) (by kernel_rfl) (by kernel_rfl) (by kernel_rfl) (by intro _ _ _ h; exact h) (Or.inl ⟨by rfl, ?_⟩) (by assumption) ?_
      rotate_left
      · (intro w hSw; (try dsimp only at hSw); go_simp; try (with_reducible rfl))
      simp only [Act.put, List.setIfInBounds_toArray, List.set_cons_zero, List.set_cons_succ]
      refine wpAnyH_take (i := 9) (v := undef) (by (simp only [List.getElem?_toArray, List.getElem?_cons_succ, List.getElem?_cons_zero]; rfl)) (by kernel_rfl) (by kernel_rfl) (by kernel_rfl) (by intro _ _ _ h; exact h) (Or.inr ⟨by rfl, rfl⟩) (by assumption) ?_
      simp only [Act.put, List.setIfInBounds_toArray, List.set_cons_zero, List.set_cons_succ]
      refine wpAnyH_take (i := 10) (v := undef) (by (simp only [List.getElem?_toArray, List.getElem?_cons_succ, List.getElem?_cons_zero]; rfl)) (by kernel_rfl) (by kernel_rfl) (by kernel_rfl) (by intro _ _ _ h; exact h) (Or.inr ⟨by rfl, rfl⟩) (by assumption) ?_
      simp only [Act.put, List.setIfInBounds_toArray, List.set_cons_zero, List.set_cons_succ]
      refine wpAnyH_take (i := 11) (v := undef) (by (simp only [List.getElem?_toArray, List.getElem?_cons_succ, List.getElem?_cons_zero]; rfl)) (by kernel_rfl) (by kernel_rfl) (by kernel_rfl) (by intro _ _ _ h; exact h) (Or.inr ⟨by rfl, rfl⟩) (by assumption) ?_
      simp only [Act.put, List.setIfInBounds_toArray, List.set_cons_zero, List.set_cons_succ]
      refine wpAnyH_take (i := 12) (v := undef) (by (simp only [List.getElem?_toArray, List.getElem?_cons_succ, List.getElem?_cons_zero]; rfl)) (by kernel_rfl) (by kernel_rfl) (by kernel_rfl) (by intro _ _ _ h; exact h) (Or.inr ⟨by rfl, rfl⟩) (by assumption) ?_
      simp only [Act.put, List.setIfInBounds_toArray, List.set_cons_zero, List.set_cons_succ]
      refine wpAnyH_take (i := 13) (v := undef) (by (simp only [List.getElem?_toArray, List.getElem?_cons_succ, List.getElem?_cons_zero]; rfl)) (by kernel_rfl) (by kernel_rfl) (by kernel_rfl) (by intro _ _ _ h; exact h) (Or.inr ⟨by rfl, rfl⟩) (by assumption) ?_
      simp only [Act.put, List.setIfInBounds_toArray, List.set_cons_zero, List.set_cons_succ]
      refine wpAnyH_take (i := 14) (v := undef) (by (simp only [List.getElem?_toArray, List.getElem?_cons_succ, List.getElem?_cons_zero]; rfl)) (by kernel_rfl) (by kernel_rfl) (by kernel_rfl) (by intro _ _ _ h; exact h) (Or.inr ⟨by rfl, rfl⟩) (by assumption) ?_
      simp only [Act.put, List.setIfInBounds_toArray, List.set_cons_zero, List.set_cons_succ]
      refine wpAnyH_take (i := 15) (v := undef) (by (simp only [List.getElem?_toArray, List.getElem?_cons_succ, List.getElem?_cons_zero]; rfl)) (by kernel_rfl) (by kernel_rfl) (by kernel_rfl) (by intro _ _ _ h; exact h) (Or.inr ⟨by rfl, rfl⟩) (by assumption) ?_
      simp only [Act.put, List.setIfInBounds_toArray, List.set_cons_zero, List.set_cons_succ]
      refine wpAnyH_take (i := 16) (v := undef) (by (simp only [List.getElem?_toArray, List.getElem?_cons_succ, List.getElem?_cons_zero]; rfl)) (by kernel_rfl) (by kernel_rfl) (by kernel_rfl) (by intro _ _ _ h; exact h) (Or.inr ⟨by rfl, rfl⟩) (by assumption) ?_
      simp only [Act.put, List.setIfInBounds_toArray, List.set_cons_zero, List.set_cons_succ]
      refine wpAnyH_take (i := 17) (v := undef) (by (simp only [List.getElem?_toArray, List.getElem?_cons_succ, List.getElem?_cons_zero]; rfl)) (by kernel_rfl) (by kernel_rfl) (by kernel_rfl) (by intro _ _ _ h; exact h) (Or.inr ⟨by rfl, rfl⟩) (by assumption) ?_
      simp only [Act.put, List.setIfInBounds_toArray, List.set_cons_zero, List.set_cons_succ]
      refine wpAnyH_take (i := 18) (v := undef) (by (simp only [List.getElem?_toArray, List.getElem?_cons_succ, List.getElem?_cons_zero]; rfl)) (by kernel_rfl) (by kernel_rfl) (by kernel_rfl) (by intro _ _ _ h; exact h) (Or.inr ⟨by rfl, rfl⟩) (by assumption) ?_
      simp only [Act.put, List.setIfInBounds_toArray, List.set_cons_zero, List.set_cons_succ]
      refine wpAnyH_take (i := 19) (v := undef) (by (simp only [List.getElem?_toArray, List.getElem?_cons_succ, List.getElem?_cons_zero]; rfl)) (by kernel_rfl) (by kernel_rfl) (by kernel_rfl) (by intro _ _ _ h; exact h) (Or.inr ⟨by rfl, rfl⟩) (by assumption) ?_
      simp only [Act.put, List.setIfInBounds_toArray, List.set_cons_zero, List.set_cons_succ]
      refine wpAnyH_take (i := 20) (v := undef) (by (simp only [List.getElem?_toArray, List.getElem?_cons_succ, List.getElem?_cons_zero]; rfl)) (by kernel_rfl) (by kernel_rfl) (by kernel_rfl) (by intro _ _ _ h; exact h) (Or.inr ⟨by rfl, rfl⟩) (by assumption) ?_
      simp only [Act.put, List.setIfInBounds_toArray, List.set_cons_zero, List.set_cons_succ]
      refine wpAnyH_take (i := 21) (v := ?_) (by (simp only [List.getElem?_toArray, List.getElem?_cons_succ, List.getElem?_cons_zero]; rfl)) (by kernel_rfl) (by kernel_rfl) (by kernel_rfl) (by intro _ _ _ h; exact h) (Or.inl ⟨by rfl, ?_⟩) (by assumption) ?_
      rotate_left
      · (intro w hSw; (try dsimp only at hSw); go_simp; try (with_reducible rfl))
      simp only [Act.put, List.setIfInBounds_toArray, List.set_cons_zero, List.set_cons_succ]
      refine wpAnyH_ready (rs := [22]) (by kernel_rfl) (by simp) ?_
      refine AllReadyH.cons (by (simp only [List.getElem?_toArray, List.getElem?_cons_succ, List.getElem?_cons_zero]; rfl)) (fun K hK => ?_) AllReadyH.nil
      refine wp_store_part 4 _ _ rfl (L + 1) 0 (.bool false) #[.bool false] rfl rfl rfl 4 _ HF1.out (by kernel_rfl) (by simp) (by simp [Value.oneCell']) #[.bool false] rfl ?_
      have hfar : ∀ {A : Addr} {x : Value}, A.block ≠ L + 1 → w1.cell? A = some x → (w1.drew.setRow (L + 1) #[.bool false]).cell? A = some x := fun {A x} hA h => (cell_setRow_other _ _ _ _ hA).trans h
      refine hK.out _ _ ⟨hfar (by have := HVL.out; simp only; omega) hc4, hfar (by have := HLT1.out; simp only; omega) h3A, fun c u hu => hfar (by have := HVL.out; simp only [add_block]; omega) (hpo c u hu), fun c u hu => hfar (by have := HBA.out; simp only [add_block]; omega) (hpA1 c u hu)⟩ (fun hHeld => ?_)
      clear hK K
      try simp only [Act.put, List.setIfInBounds_toArray, List.set_cons_zero, List.set_cons_succ]
      refine wpAnyH_done (by kernel_rfl) ?_ _
      have hG2 := (HG1.out.below (Below.refl w1.heap.size w1).drew).fit #[.bool false]
      have hF2 : FitAt L false (w1.drew.setRow (L + 1) #[.bool false]) := HF1.out.set false
      have hP2 : EdP (w1.drew.setRow (L + 1) #[.bool false]) V ⟨ek, true, has, old, new⟩ := (setRow_other w1.drew (L + 1) V _ (by have := HVL.out; omega)).trans HP.out
      generalize w1.drew.setRow (L + 1) #[.bool false] = w2 at hG2 hF2 hP2 ⊢
      have HST2 := Lib.hid (HST1.out.trans (Stp.trans (Stp.of_below (Below.refl w1.heap.size w1).drew) hG2.2))
      have HG2 := Lib.hid hG2.1
      have HF2 := Lib.hid hF2
      have HP2 := Lib.hid hP2
      clear hG2 hF2 hfar hHeld hcf hc4 hpo h3A hpA1
      obtain ⟨y0, y1, y2, y3, y4, y5, y6, y7, y8, y9, y10, y11, y12, y13, y14, y15, y16, y17⟩ := hP2.cells
      clear hP2
      cases has
      · go_wp2
        go_end0
        exact ⟨rfl, r, by simpa using HG2.out, by simpa using HF2.out, HST2.out⟩
      · obtain ⟨v, hv, hown, hrv⟩ := HG2.out.row
        have hc3 : w2.cell? ⟨L, 3, none⟩ = some v := by rw [cell_of_row w2 L 3 _ _ (0, 0) hv]; rfl
        have HV := Lib.hid hv
        have HRV := Lib.hid hrv
        have HOWN := Lib.hid hown
        have HLE := Lib.hid (show ∀ k, v.ownBlock = some k → L + 2 ≤ k from fun k hk => (hown.lt k hk).1)
        have HZ2 := Lib.hid HG2.out.bs
        have HFR := Lib.hid (fun (w3 : World) (hg : w2.grownBy w3 v.ownBlock) => show w3.frozen? ⟨L, 3, none⟩ = false ∧ w3.heap[L]? = some (Obj.cells #[.string g, .string a, .string u, v] 26 (0, 0)) from by
          have h3 : w3.heap[L]? = some (Obj.cells #[.string g, .string a, .string u, v] 26 (0, 0)) := (hg.block L (by have := HZ2.out; omega) (fun e => by have := HLE.out L e.symm; omega)).trans HV.out
          exact ⟨frozen_of_row w3 L 3 _ _ h3, h3⟩)
        clear hv hrv hown
        go_wp2_with (at_builtin
                     refine app6p new rfl _ _ 24 48 rfl _ 88 (L + 2) out.length Try.underlying24 pn_info rfl v _ rfl HOWN.out (by simp [Act.eval]) (by have := HLN.out; omega) (by have := HLN.out; omega) HZ2.out ?_)
        intro v' w3 ho3 hg3 hne3
        obtain ⟨f1, hL3⟩ := HFR.out w3 hg3
        have hL4 : (w3.setCell ⟨L, 3, none⟩ v').heap[L]? = some (mkL g a u v') := by
          have := heap_setCell_same w3 L 3 _ _ v' hL3
          show _ = some (Obj.cells #[.string g, .string a, .string u, v'] 26 (0, 0))
          simpa using this
        have h34 : w3.grownBy (w3.setCell ⟨L, 3, none⟩ v') (some L) := ⟨rfl, rfl, rfl, by simp, fun k _ hk => heap_setCell_other w3 ⟨L, 3, none⟩ k v' (fun e => hk (by simp [e]))⟩
        have HFIN := Lib.hid (HG2.out.add HV.out HRV.out HOWN.out (Below.refl _ w2) ho3 hg3 hne3 h34 hL4)
        have HFF := Lib.hid (FitAt.add HF2.out HZ2.out (fun k hk => HLE.out k (by rw [← HRV.out]; exact hk)) (Below.refl _ w2) (by rw [HRV.out]; exact hg3) h34)
        have hc3' : w3.cell? ⟨L, 3, none⟩ = some v := by rw [cell_of_row w3 L 3 _ _ (0, 0) hL3]; rfl
        obtain ⟨g1, cap1, rfl⟩ : ∃ g cap, v' = .slice (some ⟨g, 0, none⟩) (out.length + 1) cap := by
          rcases ho3.2 with ⟨_, h0⟩ | ⟨g, cap, cur, hv, _⟩
          · omega
          · exact ⟨g, cap, hv⟩
        clear ho3 hg3 hne3 hL3 hL4 h34 hc3
        go_wp2
        go_end0
        refine ⟨rfl, _, ?_, by simpa using HFF.out, HST2.out.trans HFIN.out.2⟩
        have h := HFIN.out.1
        rw [← rowN_snoc] at h
        simpa using h
  · cases had
    · refine wp_region_held_drew (S := (fun w' => w'.cell? ⟨V, 4, none⟩ = some (.bool false) ∧ w'.cell? ⟨HA, 3, none⟩ = some (.slice (some bA) lA.length pcA) ∧ PinR w' ⟨V, 6, none⟩ old ∧ PinR w' (bA.add (nA * 6)) pA)) (by kernel_rfl) (by (try dsimp only); exact ⟨hc4, h3A, hpo, hpA1⟩) (fun hHeld => ?_)
      refine wpAnyH_ready (rs := [0]) (by kernel_rfl) (by simp) ?_
      refine AllReadyH.cons (by (simp only [List.getElem?_toArray, List.getElem?_cons_succ, List.getElem?_cons_zero]; rfl)) (fun K hK => ?_) AllReadyH.nil
      go_simp
      refine hK.out _ _ hHeld (fun hHeld => ?_)
      clear hK K
      try simp only [Act.put, List.setIfInBounds_toArray, List.set_cons_zero, List.set_cons_succ]
      refine wpAnyH_take (i := 1) (v := ?_) (by (simp only [List.getElem?_toArray, List.getElem?_cons_succ, List.getElem?_cons_zero]; rfl)) (by kernel_rfl) (by kernel_rfl) (by kernel_rfl) (by intro _ _ _ h; exact h) (Or.inl ⟨by rfl, ?_⟩) (by assumption) ?_
      rotate_left
      · (intro w hSw; (try dsimp only at hSw); go_simp; try (with_reducible rfl))
      simp only [Act.put, List.setIfInBounds_toArray, List.set_cons_zero, List.set_cons_succ]
      refine wpAnyH_take (i := 2) (v := ?_) (by (simp only [List.getElem?_toArray, List.getElem?_cons_succ, List.getElem?_cons_zero]; rfl)) (by kernel_rfl) (by kernel_rfl) (by kernel_rfl) (by intro _ _ _ h; exact h) (Or.inl ⟨by rfl, ?_⟩) (by assumption) ?_
      rotate_left
      · (intro w hSw; (try dsimp only at hSw); go_simp; try (with_reducible rfl))
      simp only [Act.put, List.setIfInBounds_toArray, List.set_cons_zero, List.set_cons_succ]
      refine wpAnyH_take (i := 3) (v := ?_) (by (simp only [List.getElem?_toArray, List.getElem?_cons_succ, List.getElem?_cons_zero]; rfl)) (by kernel_rfl) (by kernel_rfl) (by kernel_rfl) (by intro _ _ _ h; exact h) (Or.inl ⟨by rfl, ?_⟩) (by assumption) ?_
      rotate_left
      · (intro w hSw; (try dsimp only at hSw); go_simp; try (with_reducible rfl))
      simp only [Act.put, List.setIfInBounds_toArray, List.set_cons_zero, List.set_cons_succ]
      refine wpAnyH_take (i := 4) (v := ?_) (by (simp only [List.getElem?_toArray, List.getElem?_cons_succ, List.getElem?_cons_zero]; rfl)) (by kernel_rfl) (by kernel_rfl) (by kernel_rfl) (by intro _ _ _ h; exact h) (Or.inl ⟨by rfl, ?_⟩) (by assumption) ?_
      rotate_left
      · (intro w hSw; (try dsimp only at hSw); go_simp; try (with_reducible rfl))
      simp only [Act.put, List.setIfInBounds_toArray, List.set_cons_zero, List.set_cons_succ]
      refine wpAnyH_take (i := 5) (v := ?_) (by (simp only [List.getElem?_toArray, List.getElem?_cons_succ, List.getElem?_cons_zero]; rfl)) (by kernel_rfl) (by kernel_rfl) (by kernel_rfl) (by intro _ _ _ h; exact h) (Or.inl ⟨by rfl, ?_⟩) (by assumption) ?_
      rotate_left
      · (intro w hSw; (try dsimp only at hSw); go_simp; try (with_reducible rfl))
      simp only [Act.put, List.setIfInBounds_toArray, List.set_cons_zero, List.set_cons_succ]
      refine wpAnyH_take (i := 6) (v := ?_) (by (simp only [List.getElem?_toArray, List.getElem?_cons_succ, List.getElem?_cons_zero]; rfl)) (by kernel_rfl) (by kernel_rfl) (by kernel_rfl) (by intro _ _ _ h; exact h) (Or.inl ⟨by rfl, ?_⟩) (by assumption) ?_
      rotate_left
      · (intro w hSw; (try dsimp only at hSw); go_simp; try (with_reducible rfl))
      simp only [Act.put, List.setIfInBounds_toArray, List.set_cons_zero, List.set_cons_succ]
      refine wpAnyH_take (i := 7) (v := ?_) (by (simp only [List.getElem?_toArray, List.getElem?_cons_succ, List.getElem?_cons_zero]; rfl)) (by kernel_rfl) (by kernel_rfl) (by kernel_rfl) (by intro _ _ _ h; exact h) (Or.inl ⟨by rfl, ?_⟩) (by assumption) ?_
      rotate_left
      · (intro w hSw; (try dsimp only at hSw); go_simp; try (with_reducible rfl))
      simp only [Act.put, List.setIfInBounds_toArray, List.set_cons_zero, List.set_cons_succ]
      refine wpAnyH_take (i := 8) (v := ?_) (by (simp only [List.getElem?_toArray, List.getElem?_cons_succ, List.getElem?_cons_zero]; rfl)) (by kernel_rfl) (by kernel_rfl) (by kernel_rfl) (by intro _ _ _ h; exact h) (Or.inl ⟨by rfl, ?_⟩) (by assumption) ?_
      rotate_left
      · (intro w hSw; (try dsimp only at hSw); go_simp; try (with_reducible rfl))
      simp only [Act.put, List.setIfInBounds_toArray, List.set_cons_zero, List.set_cons_succ]
      refine wpAnyH_take (i := 9) (v := undef) (by (simp only [List.getElem?_toArray, List.getElem?_cons_succ, List.getElem?_cons_zero]; rfl)) (by kernel_rfl) (by kernel_rfl) (by kernel_rfl) (by intro _ _ _ h; exact h) (Or.inr ⟨by rfl, rfl⟩) (by assumption) ?_
      simp only [Act.put, List.setIfInBounds_toArray, List.set_cons_zero, List.set_cons_succ]
      refine wpAnyH_take (i := 10) (v := undef) (by (simp only [List.getElem?_toArray, List.getElem?_cons_succ, List.getElem?_cons_zero]; rfl)) (by kernel_rfl) (by kernel_rfl) (by kernel_rfl) (by intro _ _ _ h; exact h) (Or.inr ⟨by rfl, rfl⟩) (by assumption) ?_
      simp only [Act.put, List.setIfInBounds_toArray, List.set_cons_zero, List.set_cons_succ]
      refine wpAnyH_take (i := 11) (v := undef) (by (simp only [List.getElem?_toArray, List.getElem?_cons_succ, List.getElem?_cons_zero]; rfl)) (by kernel_rfl) (by kernel_rfl) (by kernel_rfl) (by intro _ _ _ h; exact h) (Or.inr ⟨by rfl, rfl⟩) (by assumption) ?_
      simp only [Act.put, List.setIfInBounds_toArray, List.set_cons_zero, List.set_cons_succ]
      refine wpAnyH_take (i := 12) (v := undef) (by (simp only [List.getElem?_toArray, List.getElem?_cons_succ, List.getElem?_cons_zero]; rfl)) (by kernel_rfl) (by kernel_rfl) (by kernel_rfl) (by intro _ _ _ h; exact h) (Or.inr ⟨by rfl, rfl⟩) (by assumption) ?_
      simp only [Act.put, List.setIfInBounds_toArray, List.set_cons_zero, List.set_cons_succ]
      refine wpAnyH_take (i := 13) (v := undef) (by (simp only [List.getElem?_toArray, List.getElem?_cons_succ, List.getElem?_cons_zero]; rfl)) (by kernel_rfl) (by kernel_rfl) (by kernel_rfl) (by intro _ _ _ h; exact h) (Or.inr ⟨by rfl, rfl⟩) (by assumption) ?_
      simp only [Act.put, List.setIfInBounds_toArray, List.set_cons_zero, List.set_cons_succ]
      refine wpAnyH_take (i := 14) (v := undef) (by (simp only [List.getElem?_toArray, List.getElem?_cons_succ, List.getElem?_cons_zero]; rfl)) (by kernel_rfl) (by kernel_rfl) (by kernel_rfl) (by intro _ _ _ h; exact h) (Or.inr ⟨by rfl, rfl⟩) (by assumption) ?_
      simp only [Act.put, List.setIfInBounds_toArray, List.set_cons_zero, List.set_cons_succ]
      refine wpAnyH_take (i := 15) (v := undef) (by (simp only [List.getElem?_toArray, List.getElem?_cons_succ, List.getElem?_cons_zero]; rfl)) (by kernel_rfl) (by kernel_rfl) (by kernel_rfl) (by intro _ _ _ h; exact h) (Or.inr ⟨by rfl, rfl⟩) (by assumption) ?_
      simp only [Act.put, List.setIfInBounds_toArray, List.set_cons_zero, List.set_cons_succ]
      refine wpAnyH_take (i := 16) (v := undef) (by (simp only [List.getElem?_toArray, List.getElem?_cons_succ, List.getElem?_cons_zero]; rfl)) (by kernel_rfl) (by kernel_rfl) (by kernel_rfl) (by intro _ _ _ h; exact h) (Or.inr ⟨by rfl, rfl⟩) (by assumption) ?_
      simp only [Act.put, List.setIfInBounds_toArray, List.set_cons_zero, List.set_cons_succ]
      refine wpAnyH_take (i := 17) (v := undef) (by (simp only [List.getElem?_toArray, List.getElem?_cons_succ, List.getElem?_cons_zero]; rfl)) (by kernel_rfl) (by kernel_rfl) (by kernel_rfl) (by intro _ _ _ h; exact h) (Or.inr ⟨by rfl, rfl⟩) (by assumption) ?_
      simp only [Act.put, List.setIfInBounds_toArray, List.set_cons_zero, List.set_cons_succ]
      refine wpAnyH_take (i := 18) (v := undef) (by (simp only [List.getElem?_toArray, List.getElem?_cons_succ, List.getElem?_cons_zero]; rfl)) (by kernel_rfl) (by kernel_rfl) (by kernel_rfl) (by intro _ _ _ h; exact h) (Or.inr ⟨by rfl, rfl⟩) (by assumption) ?_
      simp only [Act.put, List.setIfInBounds_toArray, List.set_cons_zero, List.set_cons_succ]
      refine wpAnyH_take (i := 19) (v := undef) (by (simp only [List.getElem?_toArray, List.getElem?_cons_succ, List.getElem?_cons_zero]; rfl)) (by kernel_rfl) (by kernel_rfl) (by kernel_rfl) (by intro _ _ _ h; exact h) (Or.inr ⟨by rfl, rfl⟩) (by assumption) ?_
      simp only [Act.put, List.setIfInBounds_toArray, List.set_cons_zero, List.set_cons_succ]
      refine wpAnyH_take (i := 20) (v := undef) (by (simp only [List.getElem?_toArray, List.getElem?_cons_succ, List.getElem?_cons_zero]; rfl)) (by kernel_rfl) (by kernel_rfl) (by kernel_rfl) (by intro _ _ _ h; exact h) (Or.inr ⟨by rfl, rfl⟩) (by assumption) ?_
      simp only [Act.put, List.setIfInBounds_toArray, List.set_cons_zero, List.set_cons_succ]
      refine wpAnyH_take (i := 21) (v := ?_) (by (simp only [List.getElem?_toArray, List.getElem?_cons_succ, List.getElem?_cons_zero]; rfl)) (by kernel_rfl) (by kernel_rfl) (by kernel_rfl) (by intro _ _ _ h; exact h) (Or.inl ⟨by rfl, ?_⟩) (by assumption) ?_
      rotate_left
      · (intro w hSw; (try dsimp only at hSw); go_simp; try (with_reducible rfl))
      simp only [Act.put, List.setIfInBounds_toArray, List.set_cons_zero, List.set_cons_succ]
      refine wpAnyH_ready (rs := [22]) (by kernel_rfl) (by simp) ?_
      refine AllReadyH.cons (by (simp only [List.getElem?_toArray, List.getElem?_cons_succ, List.getElem?_cons_zero]; rfl)) (fun K hK => ?_) AllReadyH.nil
      refine wp_store_part 4 _ _ rfl (L + 1) 0 (.bool false) #[.bool false] rfl rfl rfl 4 _ HF1.out (by kernel_rfl) (by simp) (by simp [Value.oneCell']) #[.bool false] rfl ?_
      have hfar : ∀ {A : Addr} {x : Value}, A.block ≠ L + 1 → w1.cell? A = some x → (w1.drew.setRow (L + 1) #[.bool false]).cell? A = some x := fun {A x} hA h => (cell_setRow_other _ _ _ _ hA).trans h
      refine hK.out _ _ ⟨hfar (by have := HVL.out; simp only; omega) hc4, hfar (by have := HLT1.out; simp only; omega) h3A, fun c u hu => hfar (by have := HVL.out; simp only [add_block]; omega) (hpo c u hu), fun c u hu => hfar (by have := HBA.out; simp only [add_block]; omega) (hpA1 c u hu)⟩ (fun hHeld => ?_)
      clear hK K
      try simp only [Act.put, List.setIfInBounds_toArray, List.set_cons_zero, List.set_cons_succ]
      refine wpAnyH_done (by kernel_rfl) ?_ _
      have hG2 := (HG1.out.below (Below.refl w1.heap.size w1).drew).fit #[.bool false]
      have hF2 : FitAt L false (w1.drew.setRow (L + 1) #[.bool false]) := HF1.out.set false
      have hP2 : EdP (w1.drew.setRow (L + 1) #[.bool false]) V ⟨ek, false, has, old, new⟩ := (setRow_other w1.drew (L + 1) V _ (by have := HVL.out; omega)).trans HP.out
      generalize w1.drew.setRow (L + 1) #[.bool false] = w2 at hG2 hF2 hP2 ⊢
      have HST2 := Lib.hid (HST1.out.trans (Stp.trans (Stp.of_below (Below.refl w1.heap.size w1).drew) hG2.2))
      have HG2 := Lib.hid hG2.1
      have HF2 := Lib.hid hF2
      have HP2 := Lib.hid hP2
      clear hG2 hF2 hfar hHeld hcf hc4 hpo h3A hpA1
      obtain ⟨y0, y1, y2, y3, y4, y5, y6, y7, y8, y9, y10, y11, y12, y13, y14, y15, y16, y17⟩ := hP2.cells
      clear hP2
      cases has
      · go_wp2
        go_end0
        exact ⟨rfl, r, by simpa using HG2.out, by simpa using HF2.out, HST2.out⟩
      · obtain ⟨v, hv, hown, hrv⟩ := HG2.out.row
        have hc3 : w2.cell? ⟨L, 3, none⟩ = some v := by rw [cell_of_row w2 L 3 _ _ (0, 0) hv]; rfl
        have HV := Lib.hid hv
        have HRV := Lib.hid hrv
        have HOWN := Lib.hid hown
        have HLE := Lib.hid (show ∀ k, v.ownBlock = some k → L + 2 ≤ k from fun k hk => (hown.lt k hk).1)
        have HZ2 := Lib.hid HG2.out.bs
        have HFR := Lib.hid (fun (w3 : World) (hg : w2.grownBy w3 v.ownBlock) => show w3.frozen? ⟨L, 3, none⟩ = false ∧ w3.heap[L]? = some (Obj.cells #[.string g, .string a, .string u, v] 26 (0, 0)) from by
          have h3 : w3.heap[L]? = some (Obj.cells #[.string g, .string a, .string u, v] 26 (0, 0)) := (hg.block L (by have := HZ2.out; omega) (fun e => by have := HLE.out L e.symm; omega)).trans HV.out
          exact ⟨frozen_of_row w3 L 3 _ _ h3, h3⟩)
        clear hv hrv hown
        go_wp2_with (at_builtin
                     refine app6p new rfl _ _ 24 48 rfl _ 88 (L + 2) out.length Try.underlying24 pn_info rfl v _ rfl HOWN.out (by simp [Act.eval]) (by have := HLN.out; omega) (by have := HLN.out; omega) HZ2.out ?_)
        intro v' w3 ho3 hg3 hne3
        obtain ⟨f1, hL3⟩ := HFR.out w3 hg3
        have hL4 : (w3.setCell ⟨L, 3, none⟩ v').heap[L]? = some (mkL g a u v') := by
          have := heap_setCell_same w3 L 3 _ _ v' hL3
          show _ = some (Obj.cells #[.string g, .string a, .string u, v'] 26 (0, 0))
          simpa using this
        have h34 : w3.grownBy (w3.setCell ⟨L, 3, none⟩ v') (some L) := ⟨rfl, rfl, rfl, by simp, fun k _ hk => heap_setCell_other w3 ⟨L, 3, none⟩ k v' (fun e => hk (by simp [e]))⟩
        have HFIN := Lib.hid (HG2.out.add HV.out HRV.out HOWN.out (Below.refl _ w2) ho3 hg3 hne3 h34 hL4)
        have HFF := Lib.hid (FitAt.add HF2.out HZ2.out (fun k hk => HLE.out k (by rw [← HRV.out]; exact hk)) (Below.refl _ w2) (by rw [HRV.out]; exact hg3) h34)
        have hc3' : w3.cell? ⟨L, 3, none⟩ = some v := by rw [cell_of_row w3 L 3 _ _ (0, 0) hL3]; rfl
        obtain ⟨g1, cap1, rfl⟩ : ∃ g cap, v' = .slice (some ⟨g, 0, none⟩) (out.length + 1) cap := by
          rcases ho3.2 with ⟨_, h0⟩ | ⟨g, cap, cur, hv, _⟩
          · omega
          · exact ⟨g, cap, hv⟩
        clear ho3 hg3 hne3 hL3 hL4 h34 hc3
        go_wp2
        go_end0
        refine ⟨rfl, _, ?_, by simpa using HFF.out, HST2.out.trans HFIN.out.2⟩
        have h := HFIN.out.1
        rw [← rowN_snoc] at h
        simpa using h
    · have heq := HEQ.out
      refine wp_region_held_drew (S := (fun w' => w'.cell? ⟨V, 4, none⟩ = some (.bool true) ∧ w'.cell? ⟨HA, 3, none⟩ = some (.slice (some bA) lA.length pcA) ∧ PinR w' ⟨V, 6, none⟩ old ∧ PinR w' (bA.add (nA * 6)) pA)) (by kernel_rfl) (by (try dsimp only); exact ⟨hc4, h3A, hpo, hpA1⟩) (fun hHeld => ?_)
      refine wpAnyH_ready (rs := [0]) (by kernel_rfl) (by simp) ?_
      refine AllReadyH.cons (by (simp only [List.getElem?_toArray, List.getElem?_cons_succ, List.getElem?_cons_zero]; rfl)) (fun K hK => ?_) AllReadyH.nil
      go_simp
      refine hK.out _ _ hHeld (fun hHeld => ?_)
      clear hK K
      try simp only [Act.put, List.setIfInBounds_toArray, List.set_cons_zero, List.set_cons_succ]
      refine wpAnyH_take (i := 1) (v := ?_) (by (simp only [List.getElem?_toArray, List.getElem?_cons_succ, List.getElem?_cons_zero]; rfl)) (by kernel_rfl) (by kernel_rfl) (by kernel_rfl) (by intro _ _ _ h; exact h) (Or.inl ⟨by rfl, ?_⟩) (by assumption) ?_
      rotate_left
      · (intro w hSw; (try dsimp only at hSw); go_simp; try (with_reducible rfl))
      simp only [Act.put, List.setIfInBounds_toArray, List.set_cons_zero, List.set_cons_succ]
      refine wpAnyH_take (i := 2) (v := ?_) (by (simp only [List.getElem?_toArray, List.getElem?_cons_succ, List.getElem?_cons_zero]; rfl)) (by kernel_rfl) (by kernel_rfl) (by kernel_rfl) (by intro _ _ _ h; exact h) (Or.inl ⟨by rfl, ?_⟩) (by assumption) ?_
      rotate_left
      · (intro w hSw; (try dsimp only at hSw); go_simp; try (with_reducible rfl))
      simp only [Act.put, List.setIfInBounds_toArray, List.set_cons_zero, List.set_cons_succ]
      refine wpAnyH_take (i := 3) (v := ?_) (by (simp only [List.getElem?_toArray, List.getElem?_cons_succ, List.getElem?_cons_zero]; rfl)) (by kernel_rfl) (by kernel_rfl) (by kernel_rfl) (by intro _ _ _ h; exact h) (Or.inl ⟨by rfl, ?_⟩) (by assumption) ?_
      rotate_left
      · (intro w hSw; (try dsimp only at hSw); go_simp; try (with_reducible rfl))
      simp only [Act.put, List.setIfInBounds_toArray, List.set_cons_zero, List.set_cons_succ]
      refine wpAnyH_take (i := 4) (v := ?_) (by (simp only [List.getElem?_toArray, List.getElem?_cons_succ, List.getElem?_cons_zero]; rfl)) (by kernel_rfl) (by kernel_rfl) (by kernel_rfl) (by intro _ _ _ h; exact h) (Or.inl ⟨by rfl, ?_⟩) (by assumption) ?_
      rotate_left
      · (intro w hSw; (try dsimp only at hSw); go_simp; try (with_reducible rfl))
      simp only [Act.put, List.setIfInBounds_toArray, List.set_cons_zero, List.set_cons_succ]
      refine wpAnyH_take (i := 5) (v := ?_) (by (simp only [List.getElem?_toArray, List.getElem?_cons_succ, List.getElem?_cons_zero]; rfl)) (by kernel_rfl) (by kernel_rfl) (by kernel_rfl) (by intro _ _ _ h; exact h) (Or.inl ⟨by rfl, ?_⟩) (by assumption) ?_
      rotate_left
      · (intro w hSw; (try dsimp only at hSw); go_simp; try (with_reducible rfl))
      simp only [Act.put, List.setIfInBounds_toArray, List.set_cons_zero, List.set_cons_succ]
      refine wpAnyH_take (i := 6) (v := ?_) (by (simp only [List.getElem?_toArray, List.getElem?_cons_succ, List.getElem?_cons_zero]; rfl)) (by kernel_rfl) (by kernel_rfl) (by kernel_rfl) (by intro _ _ _ h; exact h) (Or.inl ⟨by rfl, ?_⟩) (by assumption) ?_
      rotate_left
      · (intro w hSw; (try dsimp only at hSw); go_simp; try (with_reducible rfl))
      simp only [Act.put, List.setIfInBounds_toArray, List.set_cons_zero, List.set_cons_succ]
      refine wpAnyH_take (i := 7) (v := ?_) (by (simp only [List.getElem?_toArray, List.getElem?_cons_succ, List.getElem?_cons_zero]; rfl)) (by kernel_rfl) (by kernel_rfl) (by kernel_rfl) (by intro _ _ _ h; exact h) (Or.inl ⟨by rfl, ?_⟩) (by assumption) ?_
      rotate_left
      · (intro w hSw; (try dsimp only at hSw); go_simp; try (with_reducible rfl))
      simp only [Act.put, List.setIfInBounds_toArray, List.set_cons_zero, List.set_cons_succ]
      refine wpAnyH_take (i := 8) (v := ?_) (by (simp only [List.getElem?_toArray, List.getElem?_cons_succ, List.getElem?_cons_zero]; rfl)) (by kernel_rfl) (by kernel_rfl) (by kernel_rfl) (by intro _ _ _ h; exact h) (Or.inl ⟨by rfl, ?_⟩) (by assumption) ?_
      rotate_left
      · (intro w hSw; (try dsimp only at hSw); go_simp; try (with_reducible rfl))
      simp only [Act.put, List.setIfInBounds_toArray, List.set_cons_zero, List.set_cons_succ]
      refine wpAnyH_take (i := 9) (v := ?_) (by (simp only [List.getElem?_toArray, List.getElem?_cons_succ, List.getElem?_cons_zero]; rfl)) (by kernel_rfl) (by kernel_rfl) (by kernel_rfl) (by intro _ _ _ h; exact h) (Or.inl ⟨by rfl, ?_⟩) (by assumption) ?_
      rotate_left
      · (intro w hSw; (try dsimp only at hSw); go_simp; try (with_reducible rfl))
      simp only [Act.put, List.setIfInBounds_toArray, List.set_cons_zero, List.set_cons_succ]
      refine wpAnyH_take (i := 10) (v := ?_) (by (simp only [List.getElem?_toArray, List.getElem?_cons_succ, List.getElem?_cons_zero]; rfl)) (by kernel_rfl) (by kernel_rfl) (by kernel_rfl) (by intro _ _ _ h; exact h) (Or.inl ⟨by rfl, ?_⟩) (by assumption) ?_
      rotate_left
      · (intro w hSw; (try dsimp only at hSw); go_simp; try (with_reducible rfl))
      simp only [Act.put, List.setIfInBounds_toArray, List.set_cons_zero, List.set_cons_succ]
      refine wpAnyH_take (i := 11) (v := ?_) (by (simp only [List.getElem?_toArray, List.getElem?_cons_succ, List.getElem?_cons_zero]; rfl)) (by kernel_rfl) (by kernel_rfl) (by kernel_rfl) (by intro _ _ _ h; exact h) (Or.inl ⟨by rfl, ?_⟩) (by assumption) ?_
      rotate_left
      · (intro w hSw; (try dsimp only at hSw); go_simp; try (with_reducible rfl))
      simp only [Act.put, List.setIfInBounds_toArray, List.set_cons_zero, List.set_cons_succ]
      refine wpAnyH_take (i := 12) (v := ?_) (by (simp only [List.getElem?_toArray, List.getElem?_cons_succ, List.getElem?_cons_zero]; rfl)) (by kernel_rfl) (by kernel_rfl) (by kernel_rfl) (by intro _ _ _ h; exact h) (Or.inl ⟨by rfl, ?_⟩) (by assumption) ?_
      rotate_left
      · (intro w hSw; (try dsimp only at hSw); go_simp; try (with_reducible rfl))
      simp only [Act.put, List.setIfInBounds_toArray, List.set_cons_zero, List.set_cons_succ]
      refine wpAnyH_take (i := 13) (v := _) (by (simp only [List.getElem?_toArray, List.getElem?_cons_succ, List.getElem?_cons_zero]; rfl)) (by kernel_rfl) (by kernel_rfl) (by kernel_rfl) (by intro _ _ _ h; exact h) (yields_load_pin (by rfl) _ rfl ⟨V, 6, none⟩ rfl old (fun w h => h.2.2.1)) (by assumption) ?_
      simp only [Act.put, List.setIfInBounds_toArray, List.set_cons_zero, List.set_cons_succ]
      refine wpAnyH_take (i := 14) (v := ?_) (by (simp only [List.getElem?_toArray, List.getElem?_cons_succ, List.getElem?_cons_zero]; rfl)) (by kernel_rfl) (by kernel_rfl) (by kernel_rfl) (by intro _ _ _ h; exact h) (Or.inl ⟨by rfl, ?_⟩) (by assumption) ?_
      rotate_left
      · (intro w hSw; (try dsimp only at hSw); go_simp; try (with_reducible rfl))
      simp only [Act.put, List.setIfInBounds_toArray, List.set_cons_zero, List.set_cons_succ]
      refine wpAnyH_take (i := 15) (v := ?_) (by (simp only [List.getElem?_toArray, List.getElem?_cons_succ, List.getElem?_cons_zero]; rfl)) (by kernel_rfl) (by kernel_rfl) (by kernel_rfl) (by intro _ _ _ h; exact h) (Or.inl ⟨by rfl, ?_⟩) (by assumption) ?_
      rotate_left
      · (intro w hSw; (try dsimp only at hSw); go_simp; try (with_reducible rfl))
      simp only [Act.put, List.setIfInBounds_toArray, List.set_cons_zero, List.set_cons_succ]
      refine wpAnyH_take (i := 16) (v := ?_) (by (simp only [List.getElem?_toArray, List.getElem?_cons_succ, List.getElem?_cons_zero]; rfl)) (by kernel_rfl) (by kernel_rfl) (by kernel_rfl) (by intro _ _ _ h; exact h) (Or.inl ⟨by rfl, ?_⟩) (by assumption) ?_
      rotate_left
      · (intro w hSw; (try dsimp only at hSw); go_simp; try (with_reducible rfl))
      simp only [Act.put, List.setIfInBounds_toArray, List.set_cons_zero, List.set_cons_succ]
      refine wpAnyH_take (i := 17) (v := ?_) (by (simp only [List.getElem?_toArray, List.getElem?_cons_succ, List.getElem?_cons_zero]; rfl)) (by kernel_rfl) (by kernel_rfl) (by kernel_rfl) (by intro _ _ _ h; exact h) (Or.inl ⟨by rfl, ?_⟩) (by assumption) ?_
      rotate_left
      · (intro w hSw; (try dsimp only at hSw); go_simp; try (with_reducible rfl))
      simp only [Act.put, List.setIfInBounds_toArray, List.set_cons_zero, List.set_cons_succ]
      refine wpAnyH_take (i := 18) (v := _) (by (simp only [List.getElem?_toArray, List.getElem?_cons_succ, List.getElem?_cons_zero]; rfl)) (by kernel_rfl) (by kernel_rfl) (by kernel_rfl) (by intro _ _ _ h; exact h) (yields_load_pin (by rfl) _ rfl (bA.add (nA * 6)) rfl pA (fun w h => h.2.2.2)) (by assumption) ?_
      simp only [Act.put, List.setIfInBounds_toArray, List.set_cons_zero, List.set_cons_succ]
      refine wpAnyH_take (i := 19) (v := ?_) (by (simp only [List.getElem?_toArray, List.getElem?_cons_succ, List.getElem?_cons_zero]; rfl)) (by kernel_rfl) (by kernel_rfl) (by kernel_rfl) (by intro _ _ _ h; exact h) (Or.inl ⟨by rfl, ?_⟩) (by assumption) ?_
      rotate_left
      · (intro w hSw; (try dsimp only at hSw); go_simp; try (with_reducible rfl))
      simp only [Act.put, List.setIfInBounds_toArray, List.set_cons_zero, List.set_cons_succ]
      refine wpAnyH_take (i := 20) (v := ?_) (by (simp only [List.getElem?_toArray, List.getElem?_cons_succ, List.getElem?_cons_zero]; rfl)) (by kernel_rfl) (by kernel_rfl) (by kernel_rfl) (by intro _ _ _ h; exact h) (Or.inl ⟨by rfl, ?_⟩) (by assumption) ?_
      rotate_left
      · (intro w hSw; (try dsimp only at hSw); go_simp; try (with_reducible rfl))
      simp only [Act.put, List.setIfInBounds_toArray, List.set_cons_zero, List.set_cons_succ]
      refine wpAnyH_take (i := 21) (v := ?_) (by (simp only [List.getElem?_toArray, List.getElem?_cons_succ, List.getElem?_cons_zero]; rfl)) (by kernel_rfl) (by kernel_rfl) (by kernel_rfl) (by intro _ _ _ h; exact h) (Or.inl ⟨by rfl, ?_⟩) (by assumption) ?_
      rotate_left
      · (intro w hSw; (try dsimp only at hSw); go_simp; try (with_reducible rfl))
      simp only [Act.put, List.setIfInBounds_toArray, List.set_cons_zero, List.set_cons_succ]
      refine wpAnyH_ready (rs := [22]) (by kernel_rfl) (by simp) ?_
      refine AllReadyH.cons (by (simp only [List.getElem?_toArray, List.getElem?_cons_succ, List.getElem?_cons_zero]; rfl)) (fun K hK => ?_) AllReadyH.nil
      refine wp_store_part 4 _ _ rfl (L + 1) 0 (.bool bs) #[.bool bs] rfl rfl rfl 4 _ HF1.out (by kernel_rfl) (by simp) (by simp [Value.oneCell']) #[.bool bs] rfl ?_
      have hfar : ∀ {A : Addr} {x : Value}, A.block ≠ L + 1 → w1.cell? A = some x → (w1.drew.setRow (L + 1) #[.bool bs]).cell? A = some x := fun {A x} hA h => (cell_setRow_other _ _ _ _ hA).trans h
      refine hK.out _ _ ⟨hfar (by have := HVL.out; simp only; omega) hc4, hfar (by have := HLT1.out; simp only; omega) h3A, fun c u hu => hfar (by have := HVL.out; simp only [add_block]; omega) (hpo c u hu), fun c u hu => hfar (by have := HBA.out; simp only [add_block]; omega) (hpA1 c u hu)⟩ (fun hHeld => ?_)
      clear hK K
      try simp only [Act.put, List.setIfInBounds_toArray, List.set_cons_zero, List.set_cons_succ]
      refine wpAnyH_done (by kernel_rfl) ?_ _
      have hG2 := (HG1.out.below (Below.refl w1.heap.size w1).drew).fit #[.bool bs]
      have hF2 : FitAt L bs (w1.drew.setRow (L + 1) #[.bool bs]) := HF1.out.set bs
      have hP2 : EdP (w1.drew.setRow (L + 1) #[.bool bs]) V ⟨ek, true, has, old, new⟩ := (setRow_other w1.drew (L + 1) V _ (by have := HVL.out; omega)).trans HP.out
      generalize w1.drew.setRow (L + 1) #[.bool bs] = w2 at hG2 hF2 hP2 ⊢
      have HST2 := Lib.hid (HST1.out.trans (Stp.trans (Stp.of_below (Below.refl w1.heap.size w1).drew) hG2.2))
      have HG2 := Lib.hid hG2.1
      have HF2 := Lib.hid hF2
      have HP2 := Lib.hid hP2
      clear hG2 hF2 hfar hHeld hcf hc4 hpo h3A hpA1
      obtain ⟨y0, y1, y2, y3, y4, y5, y6, y7, y8, y9, y10, y11, y12, y13, y14, y15, y16, y17⟩ := hP2.cells
      clear hP2
      cases has
      · go_wp2
        go_end0
        exact ⟨rfl, r, by simpa using HG2.out, by simpa using HF2.out, HST2.out⟩
      · obtain ⟨v, hv, hown, hrv⟩ := HG2.out.row
        have hc3 : w2.cell? ⟨L, 3, none⟩ = some v := by rw [cell_of_row w2 L 3 _ _ (0, 0) hv]; rfl
        have HV := Lib.hid hv
        have HRV := Lib.hid hrv
        have HOWN := Lib.hid hown
        have HLE := Lib.hid (show ∀ k, v.ownBlock = some k → L + 2 ≤ k from fun k hk => (hown.lt k hk).1)
        have HZ2 := Lib.hid HG2.out.bs
        have HFR := Lib.hid (fun (w3 : World) (hg : w2.grownBy w3 v.ownBlock) => show w3.frozen? ⟨L, 3, none⟩ = false ∧ w3.heap[L]? = some (Obj.cells #[.string g, .string a, .string u, v] 26 (0, 0)) from by
          have h3 : w3.heap[L]? = some (Obj.cells #[.string g, .string a, .string u, v] 26 (0, 0)) := (hg.block L (by have := HZ2.out; omega) (fun e => by have := HLE.out L e.symm; omega)).trans HV.out
          exact ⟨frozen_of_row w3 L 3 _ _ h3, h3⟩)
        clear hv hrv hown
        go_wp2_with (at_builtin
                     refine app6p new rfl _ _ 24 48 rfl _ 88 (L + 2) out.length Try.underlying24 pn_info rfl v _ rfl HOWN.out (by simp [Act.eval]) (by have := HLN.out; omega) (by have := HLN.out; omega) HZ2.out ?_)
        intro v' w3 ho3 hg3 hne3
        obtain ⟨f1, hL3⟩ := HFR.out w3 hg3
        have hL4 : (w3.setCell ⟨L, 3, none⟩ v').heap[L]? = some (mkL g a u v') := by
          have := heap_setCell_same w3 L 3 _ _ v' hL3
          show _ = some (Obj.cells #[.string g, .string a, .string u, v'] 26 (0, 0))
          simpa using this
        have h34 : w3.grownBy (w3.setCell ⟨L, 3, none⟩ v') (some L) := ⟨rfl, rfl, rfl, by simp, fun k _ hk => heap_setCell_other w3 ⟨L, 3, none⟩ k v' (fun e => hk (by simp [e]))⟩
        have HFIN := Lib.hid (HG2.out.add HV.out HRV.out HOWN.out (Below.refl _ w2) ho3 hg3 hne3 h34 hL4)
        have HFF := Lib.hid (FitAt.add HF2.out HZ2.out (fun k hk => HLE.out k (by rw [← HRV.out]; exact hk)) (Below.refl _ w2) (by rw [HRV.out]; exact hg3) h34)
        have hc3' : w3.cell? ⟨L, 3, none⟩ = some v := by rw [cell_of_row w3 L 3 _ _ (0, 0) hL3]; rfl
        obtain ⟨g1, cap1, rfl⟩ : ∃ g cap, v' = .slice (some ⟨g, 0, none⟩) (out.length + 1) cap := by
          rcases ho3.2 with ⟨_, h0⟩ | ⟨g, cap, cur, hv, _⟩
          · omega
          · exact ⟨g, cap, hv⟩
        clear ho3 hg3 hne3 hL3 hL4 h34 hc3
        go_wp2
        go_end0
        refine ⟨rfl, _, ?_, by simpa using HFF.out, HST2.out.trans HFIN.out.2⟩
        have h := HFIN.out.1
        rw [← rowN_snoc] at h
        simpa using h
end Go.Proofs.Ytoibanffaebllaa
