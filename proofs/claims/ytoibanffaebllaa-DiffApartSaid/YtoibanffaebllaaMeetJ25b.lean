/-
  Layer 25: diff.Join's closure (an edit of both rows). Own work.
-/
import Derived.Test.YtoibanffaebllaaMeetJ25
import Derived.Test.YtoibanffaebllaaMeetA25b
namespace Go.Proofs.Ytoibanffaebllaa
set_option linter.unusedVariables false
set_option linter.unusedSimpArgs false
open Go.RowKit

/-- the two edits, in variables of their own -/
def CutJ (w : World) (e f : Ed) (t8 t9 : Value) (wx : World) : Prop :=
  ∃ V8 V9, t8 = .pointer (some ⟨V8, 0, none⟩) ∧ t9 = .pointer (some ⟨V9, 0, none⟩) ∧ V8 ≠ V9 ∧ w.heap.size ≤ V8 ∧ w.heap.size ≤ V9 ∧ EdP wx V8 e ∧ EdP wx V9 f ∧ Below w.heap.size w wx
def CutT (L : Nat) (w0 : World) (out : List Ed) (r : Option Nat) (w : World) (V8 V9 : Nat) (e f : Ed) (b : Bool) (wx : World) : Prop :=
  GI L (L + 2) mkE 50 18 w0 out.length (rowE out) r wx ∧ FitAt L b wx ∧ Stp (L + 2) r w r wx ∧ EdP wx V8 e ∧ EdP wx V9 f
theorem Stp.far {B : Nat} {r r' : Option Nat} {w w1 : World} (h : Stp B r w r' w1) {V : Nat} {c : Array Value} (hV : w.heap.size ≤ V) : Stp B r w r' (w1.setRow V c) :=
  ⟨by simpa using h.size, fun x h1 h2 h3 => (setRow_other w1 V x c (by omega)).trans (h.block x h1 h2 h3), h.row⟩
theorem GI.far {L Bs : Nat} {mk : Value → Obj} {e s : Nat} {w0 w1 : World} {n : Nat} {xs : List Value} {r : Option Nat} (h : GI L Bs mk e s w0 n xs r w1) {V : Nat} {c : Array Value} (h1 : Bs ≤ V) (h2 : r ≠ some V) : GI L Bs mk e s w0 n xs r (w1.setRow V c) :=
  h.stab ⟨rfl, rfl, rfl, by simp, fun x hx hc => setRow_other w1 V x c (by
    rcases hc with hc | hc
    · omega
    · rintro rfl; exact h2 hc)⟩
theorem FitAt.far {L : Nat} {f : Bool} {w1 : World} (h : FitAt L f w1) {V : Nat} {c : Array Value} (h1 : L + 2 ≤ V) : FitAt L f (w1.setRow V c) := (setRow_other w1 V (L + 1) c (by omega)).trans h
theorem EdP.pin12 {w : World} {V : Nat} {e : Ed} (h : EdP w V e) : PinR w ⟨V, 12, none⟩ e.new := fun c u hu => by
  have h6 : c < 6 := by have := (List.getElem?_eq_some_iff.1 hu).1; simpa [pnCells] using this
  rw [show (⟨V, 12, none⟩ : Addr).add c = ⟨V, 12 + c, none⟩ from by unfold Addr.add; split <;> simp_all, cell_of_row w V (12 + c) _ _ (0, 0) h]
  match c, h6 with
  | 0, _ => exact hu
  | 1, _ => exact hu
  | 2, _ => exact hu
  | 3, _ => exact hu
  | 4, _ => exact hu
  | 5, _ => exact hu
set_option maxRecDepth 100000 in
set_option maxHeartbeats 8000000 in
theorem meetJ_both (HA HB : Nat) (L : Nat) (w0 w : World) (out : List Ed) (r : Option Nat) (f : Bool)
    (hgi : GI L (L + 2) mkE 50 18 w0 out.length (rowE out) r w) (hfit : FitAt L f w) (hlen : out.length ≤ 2000000) (vA : Value) (lA : List Ed) (ek : K4) (eh es : Bool) (eo en : Pn) (nA : Nat) (hpA : lA[nA]? = some ⟨ek, eh, es, eo, en⟩) (hnA : nA ≤ 1000000) (hcA : w0.cell? ⟨HA, 0, none⟩ = some vA) (hrA : RdE w0 vA lA) (vB : Value) (lB : List Ed) (fk : K4) (fh fs : Bool) (fo fn : Pn) (nB : Nat) (hpB : lB[nB]? = some ⟨fk, fh, fs, fo, fn⟩) (hnB : nB ≤ 1000000) (hcB : w0.cell? ⟨HB, 0, none⟩ = some vB) (hrB : RdE w0 vB lB) :
    Calls Try.prog 41 #[.int .i64 nA, .int .i64 nB, .pointer (some ⟨L, 0, none⟩), .pointer (some ⟨HA, 0, none⟩), .pointer (some ⟨HB, 0, none⟩), .pointer (some ⟨L + 1, 0, none⟩)] w (AddJ L w0 (out ++ (joF (some ⟨ek, eh, es, eo, en⟩) (some ⟨fk, fh, fs, fo, fn⟩)).toList) (f && togB (some ⟨ek, eh, es, eo, en⟩) (some ⟨fk, fh, fs, fo, fn⟩)) r w) := by
  have hbw := hgi.b
  have hsz := hgi.sz
  obtain ⟨paA, pcA, rfl⟩ := hrA.shape
  obtain ⟨bA, rfl, _, hl1A, hl2A, hqA⟩ := hrA.elem hpA
  have HPRA := Lib.hid (RdE.atR hqA hpA (Below.refl w0.heap.size w0) (Nat.le_refl _))
  have hilA : (nA : Int) < lA.length := by have := (List.getElem?_eq_some_iff.1 hpA).1; omega
  have hn0A : (0 : Int) ≤ nA := by omega
  have hnatA : nA < lA.length := (List.getElem?_eq_some_iff.1 hpA).1
  have HLTA := Lib.hid (show HA < w0.heap.size from World.block_lt_of_cell? w0 _ hcA)
  have h0A : w.cell? ⟨HA, 0, none⟩ = some (.slice (some bA) lA.length pcA) := (hbw.cell (p := ⟨HA, 0, none⟩) (by have := HLTA.out; simp only; omega)).trans hcA
  clear hqA hrA hcA hpA
  obtain ⟨paB, pcB, rfl⟩ := hrB.shape
  obtain ⟨bB, rfl, _, hl1B, hl2B, hqB⟩ := hrB.elem hpB
  have HPRB := Lib.hid (RdE.atR hqB hpB (Below.refl w0.heap.size w0) (Nat.le_refl _))
  have hilB : (nB : Int) < lB.length := by have := (List.getElem?_eq_some_iff.1 hpB).1; omega
  have hn0B : (0 : Int) ≤ nB := by omega
  have hnatB : nB < lB.length := (List.getElem?_eq_some_iff.1 hpB).1
  have HLTB := Lib.hid (show HB < w0.heap.size from World.block_lt_of_cell? w0 _ hcB)
  have h0B : w.cell? ⟨HB, 0, none⟩ = some (.slice (some bB) lB.length pcB) := (hbw.cell (p := ⟨HB, 0, none⟩) (by have := HLTB.out; simp only; omega)).trans hcB
  clear hqB hrB hcB hpB
  have hOF : ((eh != fs) = false ∧ sameP eo fn = true ∧ joF (some ⟨ek, eh, es, eo, en⟩) (some ⟨fk, fh, fs, fo, fn⟩) = none) ∨ ((eh != fs) = true ∧ joF (some ⟨ek, eh, es, eo, en⟩) (some ⟨fk, fh, fs, fo, fn⟩) = some ⟨ek, eh, fs, eo, fn⟩) ∨ ((eh != fs) = false ∧ sameP eo fn = false ∧ joF (some ⟨ek, eh, es, eo, en⟩) (some ⟨fk, fh, fs, fo, fn⟩) = some ⟨ek, eh, fs, eo, fn⟩) := by
    cases h1 : (eh != fs)
    · cases h2 : sameP eo fn
      · exact .inr (.inr ⟨rfl, rfl, by simp only [joF]; rw [if_pos (.inr h2)]⟩)
      · exact .inl ⟨rfl, rfl, by simp only [joF]; rw [if_neg (by rw [h1, h2]; simp)]⟩
    · exact .inr (.inl ⟨rfl, by simp only [joF]; rw [if_pos (.inl h1)]⟩)
  have hTG : togB (some ⟨ek, eh, es, eo, en⟩) (some ⟨fk, fh, fs, fo, fn⟩) = ((es == fh) && sameP en fo) := rfl
  rw [hTG]
  generalize joF (some ⟨ek, eh, es, eo, en⟩) (some ⟨fk, fh, fs, fo, fn⟩) = OF at hOF ⊢
  have heq1 := fun w => eq_pin en fo w
  generalize sameP en fo = b1 at heq1 ⊢
  have heq2 := fun w => neq_pin eo fn w
  generalize sameP eo fn = b2 at heq2 hOF
  have HEQ1 := Lib.hid heq1
  have HEQ2 := Lib.hid heq2
  have HOF := Lib.hid hOF
  have hbs := hgi.bs
  have HGI := Lib.hid hgi
  have HFI := Lib.hid hfit
  have HZ := Lib.hid hbs
  have HLN := Lib.hid hlen
  have HRR := Lib.hid (show ∀ k, r = some k → k < w.heap.size from fun k hk => by
    obtain ⟨v, _, hown, hrv⟩ := hgi.row
    exact (hown.lt k (hrv ▸ hk)).2)
  have HKC := Lib.hid (fun (w' : World) (hb : Below w.heap.size w w') => show w'.cell? ⟨HA, 0, none⟩ = some (.slice (some bA) lA.length pcA) ∧ w'.cell? ⟨HB, 0, none⟩ = some (.slice (some bB) lB.length pcB) ∧ Below w.heap.size w w' from
    ⟨(hb.cell (p := ⟨HA, 0, none⟩) (by have := HLTA.out; simp only; omega)).trans h0A, (hb.cell (p := ⟨HB, 0, none⟩) (by have := HLTB.out; simp only; omega)).trans h0B, hb⟩)
  have HPA := Lib.hid (fun (w' : World) (hb : Below w.heap.size w w') => show EdR w' (bA.add (nA * 18)) ⟨ek, eh, es, eo, en⟩ from HPRA.out.below (hbw.trans (hb.mono (by omega))) (by omega))
  have HPB := Lib.hid (fun (w' : World) (hb : Below w.heap.size w w') => show EdR w' (bB.add (nB * 18)) ⟨fk, fh, fs, fo, fn⟩ from HPRB.out.below (hbw.trans (hb.mono (by omega))) (by omega))
  clear hgi hfit hbw h0A h0B hsz hbs hlen heq1 heq2 hOF hTG
  go_enter Try.func41, Try.ntmps41
  go_upto_region 0 with fail
  go_cut [8, 9] from 10 to 18 (fun t8 t9 wx => CutJ w ⟨ek, eh, es, eo, en⟩ ⟨fk, fh, fs, fo, fn⟩ t8 t9 wx)
  case first =>
    refine wp_region_held_drew (S := (fun w' => w'.cell? ⟨HA, 0, none⟩ = some (.slice (some bA) lA.length pcA) ∧ w'.cell? ⟨HB, 0, none⟩ = some (.slice (some bB) lB.length pcB) ∧ Below w.heap.size w w')) (by kernel_rfl) (by (try dsimp only); exact HKC.out _ (Below.refl _ _).drew) (fun hHeld => ?_)
    generalize w.drew = wd at hHeld ⊢
    refine wpAnyH_take (i := 0) (v := ?_) (by (simp only [List.getElem?_toArray, List.getElem?_cons_succ, List.getElem?_cons_zero]; rfl)) (by kernel_rfl) (by kernel_rfl) (by kernel_rfl) (by intro _ _ _ h; exact h) (Or.inl ⟨by rfl, ?_⟩) (by assumption) ?_
    rotate_left
    · (intro w hSw; (try dsimp only at hSw); go_simp; try (with_reducible rfl))
    simp only [Act.put, List.setIfInBounds_toArray, List.set_cons_zero, List.set_cons_succ]
    refine wpAnyH_take (i := 1) (v := ?_) (by (simp only [List.getElem?_toArray, List.getElem?_cons_succ, List.getElem?_cons_zero]; rfl)) (by kernel_rfl) (by kernel_rfl) (by kernel_rfl) (by intro _ _ _ h; exact h) (Or.inl ⟨by rfl, ?_⟩) (by assumption) ?_
    rotate_left
    · (intro w hSw; (try dsimp only at hSw); go_simp; try (with_reducible rfl))
    simp only [Act.put, List.setIfInBounds_toArray, List.set_cons_zero, List.set_cons_succ]
    refine wpAnyH_take (i := 2) (v := ?_) (by (simp only [List.getElem?_toArray, List.getElem?_cons_succ, List.getElem?_cons_zero]; rfl)) (by kernel_rfl) (by kernel_rfl) (by kernel_rfl) (by intro _ _ _ h; exact h) (Or.inl ⟨by rfl, ?_⟩) (by assumption) ?_
    rotate_left
    · (intro w hSw; (try dsimp only at hSw); go_simp; try (with_reducible rfl))
    simp only [Act.put, List.setIfInBounds_toArray, List.set_cons_zero, List.set_cons_succ]
    refine wpAnyH_take (i := 3) (v := _) (by (simp only [List.getElem?_toArray, List.getElem?_cons_succ, List.getElem?_cons_zero]; rfl)) (by kernel_rfl) (by kernel_rfl) (by kernel_rfl) (by intro _ _ _ h; exact h) (yields_load_ed (by rfl) _ rfl (bA.add (nA * 18)) rfl ⟨ek, eh, es, eo, en⟩ (fun w h => HPA.out _ h.2.2)) (by assumption) ?_
    simp only [Act.put, List.setIfInBounds_toArray, List.set_cons_zero, List.set_cons_succ]
    refine wpAnyH_take (i := 4) (v := ?_) (by (simp only [List.getElem?_toArray, List.getElem?_cons_succ, List.getElem?_cons_zero]; rfl)) (by kernel_rfl) (by kernel_rfl) (by kernel_rfl) (by intro _ _ _ h; exact h) (Or.inl ⟨by rfl, ?_⟩) (by assumption) ?_
    rotate_left
    · (intro w hSw; (try dsimp only at hSw); go_simp; try (with_reducible rfl))
    simp only [Act.put, List.setIfInBounds_toArray, List.set_cons_zero, List.set_cons_succ]
    refine wpAnyH_take (i := 5) (v := ?_) (by (simp only [List.getElem?_toArray, List.getElem?_cons_succ, List.getElem?_cons_zero]; rfl)) (by kernel_rfl) (by kernel_rfl) (by kernel_rfl) (by intro _ _ _ h; exact h) (Or.inl ⟨by rfl, ?_⟩) (by assumption) ?_
    rotate_left
    · (intro w hSw; (try dsimp only at hSw); go_simp; try (with_reducible rfl))
    simp only [Act.put, List.setIfInBounds_toArray, List.set_cons_zero, List.set_cons_succ]
    refine wpAnyH_take (i := 6) (v := ?_) (by (simp only [List.getElem?_toArray, List.getElem?_cons_succ, List.getElem?_cons_zero]; rfl)) (by kernel_rfl) (by kernel_rfl) (by kernel_rfl) (by intro _ _ _ h; exact h) (Or.inl ⟨by rfl, ?_⟩) (by assumption) ?_
    rotate_left
    · (intro w hSw; (try dsimp only at hSw); go_simp; try (with_reducible rfl))
    simp only [Act.put, List.setIfInBounds_toArray, List.set_cons_zero, List.set_cons_succ]
    refine wpAnyH_take (i := 7) (v := _) (by (simp only [List.getElem?_toArray, List.getElem?_cons_succ, List.getElem?_cons_zero]; rfl)) (by kernel_rfl) (by kernel_rfl) (by kernel_rfl) (by intro _ _ _ h; exact h) (yields_load_ed (by rfl) _ rfl (bB.add (nB * 18)) rfl ⟨fk, fh, fs, fo, fn⟩ (fun w h => HPB.out _ h.2.2)) (by assumption) ?_
    simp only [Act.put, List.setIfInBounds_toArray, List.set_cons_zero, List.set_cons_succ]
    have hge := hHeld.2.2.size
    refine wpAnyH_ready (rs := [8, 9]) (by kernel_rfl) (by simp) ?_
    refine AllReadyH.cons (by (simp only [List.getElem?_toArray, List.getElem?_cons_succ, List.getElem?_cons_zero]; rfl)) (fun K hK => ?_) (AllReadyH.cons (by (simp only [List.getElem?_toArray, List.getElem?_cons_succ, List.getElem?_cons_zero]; rfl)) (fun K hK => ?_) AllReadyH.nil)
    · go_simp
      have hf := heap_alloc_new wd (.cells #[.string ⟨#[]⟩, .string ⟨#[]⟩, .string ⟨#[]⟩, .string ⟨#[]⟩, .bool false, .bool false, .string ⟨#[]⟩, .string ⟨#[]⟩, .string ⟨#[]⟩, .string ⟨#[]⟩, .string ⟨#[]⟩, .int .i64 0, .string ⟨#[]⟩, .string ⟨#[]⟩, .string ⟨#[]⟩, .string ⟨#[]⟩, .string ⟨#[]⟩, .int .i64 0] 50)
      have hb1 := hHeld.2.2.alloc hge (.cells #[.string ⟨#[]⟩, .string ⟨#[]⟩, .string ⟨#[]⟩, .string ⟨#[]⟩, .bool false, .bool false, .string ⟨#[]⟩, .string ⟨#[]⟩, .string ⟨#[]⟩, .string ⟨#[]⟩, .string ⟨#[]⟩, .int .i64 0, .string ⟨#[]⟩, .string ⟨#[]⟩, .string ⟨#[]⟩, .string ⟨#[]⟩, .string ⟨#[]⟩, .int .i64 0] 50)
      have hz1 : (wd.alloc (.cells #[.string ⟨#[]⟩, .string ⟨#[]⟩, .string ⟨#[]⟩, .string ⟨#[]⟩, .bool false, .bool false, .string ⟨#[]⟩, .string ⟨#[]⟩, .string ⟨#[]⟩, .string ⟨#[]⟩, .string ⟨#[]⟩, .int .i64 0, .string ⟨#[]⟩, .string ⟨#[]⟩, .string ⟨#[]⟩, .string ⟨#[]⟩, .string ⟨#[]⟩, .int .i64 0] 50)).heap.size = wd.heap.size + 1 := by simp
      generalize wd.alloc (.cells #[.string ⟨#[]⟩, .string ⟨#[]⟩, .string ⟨#[]⟩, .string ⟨#[]⟩, .bool false, .bool false, .string ⟨#[]⟩, .string ⟨#[]⟩, .string ⟨#[]⟩, .string ⟨#[]⟩, .string ⟨#[]⟩, .int .i64 0, .string ⟨#[]⟩, .string ⟨#[]⟩, .string ⟨#[]⟩, .string ⟨#[]⟩, .string ⟨#[]⟩, .int .i64 0] 50) = wk1 at hf hb1 hz1 ⊢
      have HZ1 := Lib.hid hz1
      clear hz1
      refine hK.out _ _ (HKC.out _ hb1) (fun hHeld => ?_)
      clear hK K
      try simp only [Act.put, List.setIfInBounds_toArray, List.set_cons_zero, List.set_cons_succ]
      refine wpAnyH_ready (rs := [9]) (by kernel_rfl) (by simp) ?_
      refine AllReadyH.cons (by (simp only [List.getElem?_toArray, List.getElem?_cons_succ, List.getElem?_cons_zero]; rfl)) (fun K hK => ?_) AllReadyH.nil
      go_simp
      have hs := heap_alloc_new wk1 (.cells #[.string ⟨#[]⟩, .string ⟨#[]⟩, .string ⟨#[]⟩, .string ⟨#[]⟩, .bool false, .bool false, .string ⟨#[]⟩, .string ⟨#[]⟩, .string ⟨#[]⟩, .string ⟨#[]⟩, .string ⟨#[]⟩, .int .i64 0, .string ⟨#[]⟩, .string ⟨#[]⟩, .string ⟨#[]⟩, .string ⟨#[]⟩, .string ⟨#[]⟩, .int .i64 0] 50)
      have hf := (Below.heap_alloc wk1 (.cells #[.string ⟨#[]⟩, .string ⟨#[]⟩, .string ⟨#[]⟩, .string ⟨#[]⟩, .bool false, .bool false, .string ⟨#[]⟩, .string ⟨#[]⟩, .string ⟨#[]⟩, .string ⟨#[]⟩, .string ⟨#[]⟩, .int .i64 0, .string ⟨#[]⟩, .string ⟨#[]⟩, .string ⟨#[]⟩, .string ⟨#[]⟩, .string ⟨#[]⟩, .int .i64 0] 50) _ (Array.getElem?_eq_some_iff.1 hf).1).trans hf
      have hb2 := hb1.alloc hb1.size (.cells #[.string ⟨#[]⟩, .string ⟨#[]⟩, .string ⟨#[]⟩, .string ⟨#[]⟩, .bool false, .bool false, .string ⟨#[]⟩, .string ⟨#[]⟩, .string ⟨#[]⟩, .string ⟨#[]⟩, .string ⟨#[]⟩, .int .i64 0, .string ⟨#[]⟩, .string ⟨#[]⟩, .string ⟨#[]⟩, .string ⟨#[]⟩, .string ⟨#[]⟩, .int .i64 0] 50)
      generalize wk1.alloc (.cells #[.string ⟨#[]⟩, .string ⟨#[]⟩, .string ⟨#[]⟩, .string ⟨#[]⟩, .bool false, .bool false, .string ⟨#[]⟩, .string ⟨#[]⟩, .string ⟨#[]⟩, .string ⟨#[]⟩, .string ⟨#[]⟩, .int .i64 0, .string ⟨#[]⟩, .string ⟨#[]⟩, .string ⟨#[]⟩, .string ⟨#[]⟩, .string ⟨#[]⟩, .int .i64 0] 50) = wk2 at hf hs hb2 ⊢
      have hne : wd.heap.size ≠ wk1.heap.size := by have := HZ1.out; omega
      have hge2 : w.heap.size ≤ wk1.heap.size := by have := HZ1.out; omega
      clear HZ1
      generalize wk1.heap.size = V9 at hs hne hge2 ⊢
      generalize wd.heap.size = V8 at hf hne hge ⊢
      refine hK.out _ _ (HKC.out _ hb2) (fun hHeld => ?_)
      clear hK K
      try simp only [Act.put, List.setIfInBounds_toArray, List.set_cons_zero, List.set_cons_succ]
      refine wpAnyH_ready (rs := [10]) (by kernel_rfl) (by simp) ?_
      refine AllReadyH.cons (by (simp only [List.getElem?_toArray, List.getElem?_cons_succ, List.getElem?_cons_zero]; rfl)) (fun K hK => ?_) AllReadyH.nil
      refine wp_store_row 50 _ _ rfl V8 #[.string ek.g, .string ek.a, .string ek.t, .string ek.c, .bool eh, .bool es, .string eo.g, .string eo.a, .string eo.t, .string eo.c, .string eo.v, .int .i64 eo.sc, .string en.g, .string en.a, .string en.t, .string en.c, .string en.v, .int .i64 en.sc] rfl rfl 50 _ hf (by kernel_rfl) rfl (by simp [Value.oneCell']) ?_
      have hp8 : EdP (wk2.setRow V8 #[.string ek.g, .string ek.a, .string ek.t, .string ek.c, .bool eh, .bool es, .string eo.g, .string eo.a, .string eo.t, .string eo.c, .string eo.v, .int .i64 eo.sc, .string en.g, .string en.a, .string en.t, .string en.c, .string en.v, .int .i64 en.sc]) V8 ⟨ek, eh, es, eo, en⟩ := setRow_heap wk2 V8 _ _ _ _ hf
      have h9 := (setRow_other wk2 V8 V9 #[.string ek.g, .string ek.a, .string ek.t, .string ek.c, .bool eh, .bool es, .string eo.g, .string eo.a, .string eo.t, .string eo.c, .string eo.v, .int .i64 eo.sc, .string en.g, .string en.a, .string en.t, .string en.c, .string en.v, .int .i64 en.sc] (fun e => (hne) e.symm)).trans hs
      have hb3 := below_setRow (cs := #[.string ek.g, .string ek.a, .string ek.t, .string ek.c, .bool eh, .bool es, .string eo.g, .string eo.a, .string eo.t, .string eo.c, .string eo.v, .int .i64 eo.sc, .string en.g, .string en.a, .string en.t, .string en.c, .string en.v, .int .i64 en.sc]) hb2 hge
      generalize wk2.setRow V8 #[.string ek.g, .string ek.a, .string ek.t, .string ek.c, .bool eh, .bool es, .string eo.g, .string eo.a, .string eo.t, .string eo.c, .string eo.v, .int .i64 eo.sc, .string en.g, .string en.a, .string en.t, .string en.c, .string en.v, .int .i64 en.sc] = wk3 at hp8 h9 hb3 ⊢
      refine hK.out _ _ (HKC.out _ hb3) (fun hHeld => ?_)
      clear hK K
      try simp only [Act.put, List.setIfInBounds_toArray, List.set_cons_zero, List.set_cons_succ]
      refine wpAnyH_ready (rs := [11]) (by kernel_rfl) (by simp) ?_
      refine AllReadyH.cons (by (simp only [List.getElem?_toArray, List.getElem?_cons_succ, List.getElem?_cons_zero]; rfl)) (fun K hK => ?_) AllReadyH.nil
      refine wp_store_row 50 _ _ rfl V9 #[.string fk.g, .string fk.a, .string fk.t, .string fk.c, .bool fh, .bool fs, .string fo.g, .string fo.a, .string fo.t, .string fo.c, .string fo.v, .int .i64 fo.sc, .string fn.g, .string fn.a, .string fn.t, .string fn.c, .string fn.v, .int .i64 fn.sc] rfl rfl 50 _ h9 (by kernel_rfl) rfl (by simp [Value.oneCell']) ?_
      have hp9 : EdP (wk3.setRow V9 #[.string fk.g, .string fk.a, .string fk.t, .string fk.c, .bool fh, .bool fs, .string fo.g, .string fo.a, .string fo.t, .string fo.c, .string fo.v, .int .i64 fo.sc, .string fn.g, .string fn.a, .string fn.t, .string fn.c, .string fn.v, .int .i64 fn.sc]) V9 ⟨fk, fh, fs, fo, fn⟩ := setRow_heap wk3 V9 _ _ _ _ h9
      have hp8 : EdP (wk3.setRow V9 #[.string fk.g, .string fk.a, .string fk.t, .string fk.c, .bool fh, .bool fs, .string fo.g, .string fo.a, .string fo.t, .string fo.c, .string fo.v, .int .i64 fo.sc, .string fn.g, .string fn.a, .string fn.t, .string fn.c, .string fn.v, .int .i64 fn.sc]) V8 ⟨ek, eh, es, eo, en⟩ := (setRow_other wk3 V9 V8 _ (hne)).trans hp8
      have hb4 := below_setRow (cs := #[.string fk.g, .string fk.a, .string fk.t, .string fk.c, .bool fh, .bool fs, .string fo.g, .string fo.a, .string fo.t, .string fo.c, .string fo.v, .int .i64 fo.sc, .string fn.g, .string fn.a, .string fn.t, .string fn.c, .string fn.v, .int .i64 fn.sc]) hb3 hge2
      refine hK.out _ _ (HKC.out _ hb4) (fun hHeld => ?_)
      clear hK K
      try simp only [Act.put, List.setIfInBounds_toArray, List.set_cons_zero, List.set_cons_succ]
      refine wpAnyH_done (by kernel_rfl) ?_ _
      have HFIN := Lib.hid (show CutJ w ⟨ek, eh, es, eo, en⟩ ⟨fk, fh, fs, fo, fn⟩ (.pointer (some ⟨V8, 0, none⟩)) (.pointer (some ⟨V9, 0, none⟩)) (wk3.setRow V9 #[.string fk.g, .string fk.a, .string fk.t, .string fk.c, .bool fh, .bool fs, .string fo.g, .string fo.a, .string fo.t, .string fo.c, .string fo.v, .int .i64 fo.sc, .string fn.g, .string fn.a, .string fn.t, .string fn.c, .string fn.v, .int .i64 fn.sc]) from ⟨V8, V9, rfl, rfl, hne, hge, hge2, hp8, hp9, hb4⟩)
      clear hf hs hb1 hb2 hb3 hb4 hp8 hp9 h9 hne hge hge2 hHeld
      go_wp2_with fail
      go_meet
      exact HFIN.out
    · go_simp
      have hf := heap_alloc_new wd (.cells #[.string ⟨#[]⟩, .string ⟨#[]⟩, .string ⟨#[]⟩, .string ⟨#[]⟩, .bool false, .bool false, .string ⟨#[]⟩, .string ⟨#[]⟩, .string ⟨#[]⟩, .string ⟨#[]⟩, .string ⟨#[]⟩, .int .i64 0, .string ⟨#[]⟩, .string ⟨#[]⟩, .string ⟨#[]⟩, .string ⟨#[]⟩, .string ⟨#[]⟩, .int .i64 0] 50)
      have hb1 := hHeld.2.2.alloc hge (.cells #[.string ⟨#[]⟩, .string ⟨#[]⟩, .string ⟨#[]⟩, .string ⟨#[]⟩, .bool false, .bool false, .string ⟨#[]⟩, .string ⟨#[]⟩, .string ⟨#[]⟩, .string ⟨#[]⟩, .string ⟨#[]⟩, .int .i64 0, .string ⟨#[]⟩, .string ⟨#[]⟩, .string ⟨#[]⟩, .string ⟨#[]⟩, .string ⟨#[]⟩, .int .i64 0] 50)
      have hz1 : (wd.alloc (.cells #[.string ⟨#[]⟩, .string ⟨#[]⟩, .string ⟨#[]⟩, .string ⟨#[]⟩, .bool false, .bool false, .string ⟨#[]⟩, .string ⟨#[]⟩, .string ⟨#[]⟩, .string ⟨#[]⟩, .string ⟨#[]⟩, .int .i64 0, .string ⟨#[]⟩, .string ⟨#[]⟩, .string ⟨#[]⟩, .string ⟨#[]⟩, .string ⟨#[]⟩, .int .i64 0] 50)).heap.size = wd.heap.size + 1 := by simp
      generalize wd.alloc (.cells #[.string ⟨#[]⟩, .string ⟨#[]⟩, .string ⟨#[]⟩, .string ⟨#[]⟩, .bool false, .bool false, .string ⟨#[]⟩, .string ⟨#[]⟩, .string ⟨#[]⟩, .string ⟨#[]⟩, .string ⟨#[]⟩, .int .i64 0, .string ⟨#[]⟩, .string ⟨#[]⟩, .string ⟨#[]⟩, .string ⟨#[]⟩, .string ⟨#[]⟩, .int .i64 0] 50) = wk1 at hf hb1 hz1 ⊢
      have HZ1 := Lib.hid hz1
      clear hz1
      refine hK.out _ _ (HKC.out _ hb1) (fun hHeld => ?_)
      clear hK K
      try simp only [Act.put, List.setIfInBounds_toArray, List.set_cons_zero, List.set_cons_succ]
      refine wpAnyH_ready (rs := [8]) (by kernel_rfl) (by simp) ?_
      refine AllReadyH.cons (by (simp only [List.getElem?_toArray, List.getElem?_cons_succ, List.getElem?_cons_zero]; rfl)) (fun K hK => ?_) AllReadyH.nil
      go_simp
      have hs := heap_alloc_new wk1 (.cells #[.string ⟨#[]⟩, .string ⟨#[]⟩, .string ⟨#[]⟩, .string ⟨#[]⟩, .bool false, .bool false, .string ⟨#[]⟩, .string ⟨#[]⟩, .string ⟨#[]⟩, .string ⟨#[]⟩, .string ⟨#[]⟩, .int .i64 0, .string ⟨#[]⟩, .string ⟨#[]⟩, .string ⟨#[]⟩, .string ⟨#[]⟩, .string ⟨#[]⟩, .int .i64 0] 50)
      have hf := (Below.heap_alloc wk1 (.cells #[.string ⟨#[]⟩, .string ⟨#[]⟩, .string ⟨#[]⟩, .string ⟨#[]⟩, .bool false, .bool false, .string ⟨#[]⟩, .string ⟨#[]⟩, .string ⟨#[]⟩, .string ⟨#[]⟩, .string ⟨#[]⟩, .int .i64 0, .string ⟨#[]⟩, .string ⟨#[]⟩, .string ⟨#[]⟩, .string ⟨#[]⟩, .string ⟨#[]⟩, .int .i64 0] 50) _ (Array.getElem?_eq_some_iff.1 hf).1).trans hf
      have hb2 := hb1.alloc hb1.size (.cells #[.string ⟨#[]⟩, .string ⟨#[]⟩, .string ⟨#[]⟩, .string ⟨#[]⟩, .bool false, .bool false, .string ⟨#[]⟩, .string ⟨#[]⟩, .string ⟨#[]⟩, .string ⟨#[]⟩, .string ⟨#[]⟩, .int .i64 0, .string ⟨#[]⟩, .string ⟨#[]⟩, .string ⟨#[]⟩, .string ⟨#[]⟩, .string ⟨#[]⟩, .int .i64 0] 50)
      generalize wk1.alloc (.cells #[.string ⟨#[]⟩, .string ⟨#[]⟩, .string ⟨#[]⟩, .string ⟨#[]⟩, .bool false, .bool false, .string ⟨#[]⟩, .string ⟨#[]⟩, .string ⟨#[]⟩, .string ⟨#[]⟩, .string ⟨#[]⟩, .int .i64 0, .string ⟨#[]⟩, .string ⟨#[]⟩, .string ⟨#[]⟩, .string ⟨#[]⟩, .string ⟨#[]⟩, .int .i64 0] 50) = wk2 at hf hs hb2 ⊢
      have hne : wd.heap.size ≠ wk1.heap.size := by have := HZ1.out; omega
      have hge2 : w.heap.size ≤ wk1.heap.size := by have := HZ1.out; omega
      clear HZ1
      generalize wk1.heap.size = V8 at hs hne hge2 ⊢
      generalize wd.heap.size = V9 at hf hne hge ⊢
      refine hK.out _ _ (HKC.out _ hb2) (fun hHeld => ?_)
      clear hK K
      try simp only [Act.put, List.setIfInBounds_toArray, List.set_cons_zero, List.set_cons_succ]
      refine wpAnyH_ready (rs := [10]) (by kernel_rfl) (by simp) ?_
      refine AllReadyH.cons (by (simp only [List.getElem?_toArray, List.getElem?_cons_succ, List.getElem?_cons_zero]; rfl)) (fun K hK => ?_) AllReadyH.nil
      refine wp_store_row 50 _ _ rfl V8 #[.string ek.g, .string ek.a, .string ek.t, .string ek.c, .bool eh, .bool es, .string eo.g, .string eo.a, .string eo.t, .string eo.c, .string eo.v, .int .i64 eo.sc, .string en.g, .string en.a, .string en.t, .string en.c, .string en.v, .int .i64 en.sc] rfl rfl 50 _ hs (by kernel_rfl) rfl (by simp [Value.oneCell']) ?_
      have hp8 : EdP (wk2.setRow V8 #[.string ek.g, .string ek.a, .string ek.t, .string ek.c, .bool eh, .bool es, .string eo.g, .string eo.a, .string eo.t, .string eo.c, .string eo.v, .int .i64 eo.sc, .string en.g, .string en.a, .string en.t, .string en.c, .string en.v, .int .i64 en.sc]) V8 ⟨ek, eh, es, eo, en⟩ := setRow_heap wk2 V8 _ _ _ _ hs
      have h9 := (setRow_other wk2 V8 V9 #[.string ek.g, .string ek.a, .string ek.t, .string ek.c, .bool eh, .bool es, .string eo.g, .string eo.a, .string eo.t, .string eo.c, .string eo.v, .int .i64 eo.sc, .string en.g, .string en.a, .string en.t, .string en.c, .string en.v, .int .i64 en.sc] (fun e => (hne.symm) e.symm)).trans hf
      have hb3 := below_setRow (cs := #[.string ek.g, .string ek.a, .string ek.t, .string ek.c, .bool eh, .bool es, .string eo.g, .string eo.a, .string eo.t, .string eo.c, .string eo.v, .int .i64 eo.sc, .string en.g, .string en.a, .string en.t, .string en.c, .string en.v, .int .i64 en.sc]) hb2 hge2
      generalize wk2.setRow V8 #[.string ek.g, .string ek.a, .string ek.t, .string ek.c, .bool eh, .bool es, .string eo.g, .string eo.a, .string eo.t, .string eo.c, .string eo.v, .int .i64 eo.sc, .string en.g, .string en.a, .string en.t, .string en.c, .string en.v, .int .i64 en.sc] = wk3 at hp8 h9 hb3 ⊢
      refine hK.out _ _ (HKC.out _ hb3) (fun hHeld => ?_)
      clear hK K
      try simp only [Act.put, List.setIfInBounds_toArray, List.set_cons_zero, List.set_cons_succ]
      refine wpAnyH_ready (rs := [11]) (by kernel_rfl) (by simp) ?_
      refine AllReadyH.cons (by (simp only [List.getElem?_toArray, List.getElem?_cons_succ, List.getElem?_cons_zero]; rfl)) (fun K hK => ?_) AllReadyH.nil
      refine wp_store_row 50 _ _ rfl V9 #[.string fk.g, .string fk.a, .string fk.t, .string fk.c, .bool fh, .bool fs, .string fo.g, .string fo.a, .string fo.t, .string fo.c, .string fo.v, .int .i64 fo.sc, .string fn.g, .string fn.a, .string fn.t, .string fn.c, .string fn.v, .int .i64 fn.sc] rfl rfl 50 _ h9 (by kernel_rfl) rfl (by simp [Value.oneCell']) ?_
      have hp9 : EdP (wk3.setRow V9 #[.string fk.g, .string fk.a, .string fk.t, .string fk.c, .bool fh, .bool fs, .string fo.g, .string fo.a, .string fo.t, .string fo.c, .string fo.v, .int .i64 fo.sc, .string fn.g, .string fn.a, .string fn.t, .string fn.c, .string fn.v, .int .i64 fn.sc]) V9 ⟨fk, fh, fs, fo, fn⟩ := setRow_heap wk3 V9 _ _ _ _ h9
      have hp8 : EdP (wk3.setRow V9 #[.string fk.g, .string fk.a, .string fk.t, .string fk.c, .bool fh, .bool fs, .string fo.g, .string fo.a, .string fo.t, .string fo.c, .string fo.v, .int .i64 fo.sc, .string fn.g, .string fn.a, .string fn.t, .string fn.c, .string fn.v, .int .i64 fn.sc]) V8 ⟨ek, eh, es, eo, en⟩ := (setRow_other wk3 V9 V8 _ (hne.symm)).trans hp8
      have hb4 := below_setRow (cs := #[.string fk.g, .string fk.a, .string fk.t, .string fk.c, .bool fh, .bool fs, .string fo.g, .string fo.a, .string fo.t, .string fo.c, .string fo.v, .int .i64 fo.sc, .string fn.g, .string fn.a, .string fn.t, .string fn.c, .string fn.v, .int .i64 fn.sc]) hb3 hge
      refine hK.out _ _ (HKC.out _ hb4) (fun hHeld => ?_)
      clear hK K
      try simp only [Act.put, List.setIfInBounds_toArray, List.set_cons_zero, List.set_cons_succ]
      refine wpAnyH_done (by kernel_rfl) ?_ _
      have HFIN := Lib.hid (show CutJ w ⟨ek, eh, es, eo, en⟩ ⟨fk, fh, fs, fo, fn⟩ (.pointer (some ⟨V8, 0, none⟩)) (.pointer (some ⟨V9, 0, none⟩)) (wk3.setRow V9 #[.string fk.g, .string fk.a, .string fk.t, .string fk.c, .bool fh, .bool fs, .string fo.g, .string fo.a, .string fo.t, .string fo.c, .string fo.v, .int .i64 fo.sc, .string fn.g, .string fn.a, .string fn.t, .string fn.c, .string fn.v, .int .i64 fn.sc]) from ⟨V8, V9, rfl, rfl, hne.symm, hge2, hge, hp8, hp9, hb4⟩)
      clear hf hs hb1 hb2 hb3 hb4 hp8 hp9 h9 hne hge hge2 hHeld
      go_wp2_with fail
      go_meet
      exact HFIN.out
  case rest =>
    obtain ⟨V8, V9, rfl, rfl, hne, g8, g9, hp8, hp9, hb⟩ := hcut
    have HNE := Lib.hid hne
    have HV8 := Lib.hid g8
    have HV9 := Lib.hid g9
    have HP8 := Lib.hid hp8
    have HP9 := Lib.hid hp9
    have HGc := Lib.hid (HGI.out.below hb)
    have HFc := Lib.hid (HFI.out.below hb HZ.out)
    have HSc := Lib.hid (Stp.of_below (Bs := L + 2) (r := r) hb)
    have hcf : wc.cell? ⟨L + 1, 0, none⟩ = some (.bool f) := by rw [cell_of_row wc (L + 1) 0 _ _ (0, 0) HFc.out]; rfl
    have hff := frozen_of_row wc (L + 1) 0 _ _ HFc.out
    have hset : ∀ (b : Bool), wc.setCell ⟨L + 1, 0, none⟩ (.bool b) = wc.setRow (L + 1) #[.bool b] := fun b => by
      have := setCell_eq_setRow wc (L + 1) 0 _ _ (0, 0) (.bool b) HFc.out
      simpa using this
    have HSET := Lib.hid hset
    obtain ⟨_, _, _, _, _, e5, _, _, _, _, _, _, e12, e13, e14, e15, e16, e17⟩ := hp8.cells
    obtain ⟨_, _, _, _, f4, _, f6, f7, f8, f9, f10, f11, _, _, _, _, _, _⟩ := hp9.cells
    simp only at e5 e12 e13 e14 e15 e16 e17 f4 f6 f7 f8 f9 f10 f11
    clear hne g8 g9 hp8 hp9 hb hset
    go_upto_region 1 with fail
    have HT := Lib.hid (fun (b : Bool) => show CutT L w0 out r w V8 V9 ⟨ek, eh, es, eo, en⟩ ⟨fk, fh, fs, fo, fn⟩ b (wc.setRow (L + 1) #[.bool b]) from
      ⟨(HGc.out.fit #[.bool b]).1, HFc.out.set b, HSc.out.trans (HGc.out.fit #[.bool b]).2, (setRow_other wc (L + 1) V8 _ (by have := HV8.out; have := HZ.out; omega)).trans HP8.out, (setRow_other wc (L + 1) V9 _ (by have := HV9.out; have := HZ.out; omega)).trans HP9.out⟩)
    go_cut [] from 18 to 33 (fun wx => CutT L w0 out r w V8 V9 ⟨ek, eh, es, eo, en⟩ ⟨fk, fh, fs, fo, fn⟩ (f && ((es == fh) && b1)) wx)
    case first =>
      have heq1 := HEQ1.out
      cases f <;> cases es <;> cases fh
      all_goals
        go_wp2_with fail
        go_meet
        rw [HSET.out]
        exact HT.out _
    case rest =>
      obtain ⟨hG, hF, hS, h8, h9⟩ := hcut
      have p12 : PinR wc ⟨V9, 12, none⟩ fn := EdP.pin12 h9
      have c5 : wc.cell? ⟨V9, 5, none⟩ = some (.bool fs) := by rw [cell_of_row wc V9 5 _ _ (0, 0) h9]; rfl
      have HG1 := Lib.hid (hG.below (Below.refl wc.heap.size wc).drew)
      have HF1 := Lib.hid (show FitAt L _ wc.drew from hF)
      have HS1 := Lib.hid (hS.trans (Stp.of_below (Below.refl wc.heap.size wc).drew))
      have HP8 := Lib.hid (show EdP wc.drew V8 ⟨ek, eh, es, eo, en⟩ from h8)
      clear hG hF hS h8 h9 HGc HFc HSc HSET HT hcf hff HKC HPA HPB e5 e12 e13 e14 e15 e16 e17 f4 f6 f7 f8 f9 f10 f11
      go_upto_region 2 with fail
      refine wp_region_held_drew (S := (fun w' => w'.cell? ⟨V9, 5, none⟩ = some (.bool fs) ∧ PinR w' ⟨V9, 12, none⟩ fn)) (by kernel_rfl) (by (try dsimp only); exact ⟨c5, p12⟩) (fun hHeld => ?_)
      refine wpAnyH_take (i := 0) (v := ?_) (by (simp only [List.getElem?_toArray, List.getElem?_cons_succ, List.getElem?_cons_zero]; rfl)) (by kernel_rfl) (by kernel_rfl) (by kernel_rfl) (by intro _ _ _ h; exact h) (Or.inl ⟨by rfl, ?_⟩) (by assumption) ?_
      rotate_left
      · (intro w hSw; (try dsimp only at hSw); go_simp; try (with_reducible rfl))
      simp only [Act.put, List.setIfInBounds_toArray, List.set_cons_zero, List.set_cons_succ]
      refine wpAnyH_take (i := 1) (v := ?_) (by (simp only [List.getElem?_toArray, List.getElem?_cons_succ, List.getElem?_cons_zero]; rfl)) (by kernel_rfl) (by kernel_rfl) (by kernel_rfl) (by intro _ _ _ h; exact h) (Or.inl ⟨by rfl, ?_⟩) (by assumption) ?_
      rotate_left
      · (intro w hSw; (try dsimp only at hSw); go_simp; try (with_reducible rfl))
      simp only [Act.put, List.setIfInBounds_toArray, List.set_cons_zero, List.set_cons_succ]
      refine wpAnyH_take (i := 2) (v := ?_) (by (simp only [List.getElem?_toArray, List.getElem?_cons_succ, List.getElem?_cons_zero]; rfl)) (by kernel_rfl) (by kernel_rfl) (by kernel_rfl) (by intro _ _ _ h; exact h) (Or.inl ⟨by rfl, ?_⟩) (by assumption) ?_
      rotate_left
      · (intro w hSw; (try dsimp only at hSw); go_simp; try (with_reducible rfl))
      simp only [Act.put, List.setIfInBounds_toArray, List.set_cons_zero, List.set_cons_succ]
      refine wpAnyH_take (i := 3) (v := _) (by (simp only [List.getElem?_toArray, List.getElem?_cons_succ, List.getElem?_cons_zero]; rfl)) (by kernel_rfl) (by kernel_rfl) (by kernel_rfl) (by intro _ _ _ h; exact h) (yields_load_pin (by rfl) _ rfl ⟨V9, 12, none⟩ rfl fn (fun w h => h.2)) (by assumption) ?_
      simp only [Act.put, List.setIfInBounds_toArray, List.set_cons_zero, List.set_cons_succ]
      refine wpAnyH_take (i := 4) (v := ?_) (by (simp only [List.getElem?_toArray, List.getElem?_cons_succ, List.getElem?_cons_zero]; rfl)) (by kernel_rfl) (by kernel_rfl) (by kernel_rfl) (by intro _ _ _ h; exact h) (Or.inl ⟨by rfl, ?_⟩) (by assumption) ?_
      rotate_left
      · (intro w hSw; (try dsimp only at hSw); go_simp; try (with_reducible rfl))
      simp only [Act.put, List.setIfInBounds_toArray, List.set_cons_zero, List.set_cons_succ]
      refine wpAnyH_ready (rs := [5]) (by kernel_rfl) (by simp) ?_
      refine AllReadyH.cons (by (simp only [List.getElem?_toArray, List.getElem?_cons_succ, List.getElem?_cons_zero]; rfl)) (fun K hK => ?_) AllReadyH.nil
      refine wp_store_part 4 _ _ rfl V8 5 (.bool fs) #[.bool fs] rfl rfl rfl 50 _ HP8.out (by kernel_rfl) (by simp) (by simp [Value.oneCell']) #[.string ek.g, .string ek.a, .string ek.t, .string ek.c, .bool eh, .bool fs, .string eo.g, .string eo.a, .string eo.t, .string eo.c, .string eo.v, .int .i64 eo.sc, .string en.g, .string en.a, .string en.t, .string en.c, .string en.v, .int .i64 en.sc] rfl ?_
      have HP9 := Lib.hid (show EdP _ V8 ⟨ek, eh, fs, eo, en⟩ from setRow_heap _ V8 _ #[.string ek.g, .string ek.a, .string ek.t, .string ek.c, .bool eh, .bool fs, .string eo.g, .string eo.a, .string eo.t, .string eo.c, .string eo.v, .int .i64 eo.sc, .string en.g, .string en.a, .string en.t, .string en.c, .string en.v, .int .i64 en.sc] _ _ HP8.out)
      refine hK.out _ _ ⟨(cell_setRow_other _ V8 _ _ (by simpa using HNE.out.symm)).trans hHeld.1, fun c u hu => (cell_setRow_other _ V8 _ _ (by rw [add_block]; exact HNE.out.symm)).trans (hHeld.2 c u hu)⟩ (fun hHeld => ?_)
      clear hK K
      try simp only [Act.put, List.setIfInBounds_toArray, List.set_cons_zero, List.set_cons_succ]
      refine wpAnyH_take (i := 6) (v := ?_) (by (simp only [List.getElem?_toArray, List.getElem?_cons_succ, List.getElem?_cons_zero]; rfl)) (by kernel_rfl) (by kernel_rfl) (by kernel_rfl) (by intro _ _ _ h; exact h) (Or.inl ⟨by rfl, ?_⟩) (by assumption) ?_
      rotate_left
      · (intro w hSw; (try dsimp only at hSw); go_simp; try (with_reducible rfl))
      simp only [Act.put, List.setIfInBounds_toArray, List.set_cons_zero, List.set_cons_succ]
      refine wpAnyH_ready (rs := [7]) (by kernel_rfl) (by simp) ?_
      refine AllReadyH.cons (by (simp only [List.getElem?_toArray, List.getElem?_cons_succ, List.getElem?_cons_zero]; rfl)) (fun K hK => ?_) AllReadyH.nil
      refine wp_store_part 48 _ _ rfl V8 12 (.agg #[.string fn.g, .string fn.a, .string fn.t, .string fn.c, .string fn.v, .int .i64 fn.sc]) #[.string fn.g, .string fn.a, .string fn.t, .string fn.c, .string fn.v, .int .i64 fn.sc] rfl rfl rfl 50 _ HP9.out (by kernel_rfl) (by simp) (by simp [Value.oneCell']) #[.string ek.g, .string ek.a, .string ek.t, .string ek.c, .bool eh, .bool fs, .string eo.g, .string eo.a, .string eo.t, .string eo.c, .string eo.v, .int .i64 eo.sc, .string fn.g, .string fn.a, .string fn.t, .string fn.c, .string fn.v, .int .i64 fn.sc] rfl ?_
      have HP7 := Lib.hid (show EdP _ V8 ⟨ek, eh, fs, eo, fn⟩ from setRow_heap _ V8 _ #[.string ek.g, .string ek.a, .string ek.t, .string ek.c, .bool eh, .bool fs, .string eo.g, .string eo.a, .string eo.t, .string eo.c, .string eo.v, .int .i64 eo.sc, .string fn.g, .string fn.a, .string fn.t, .string fn.c, .string fn.v, .int .i64 fn.sc] _ _ HP9.out)
      refine hK.out _ _ ⟨(cell_setRow_other _ V8 _ _ (by simpa using HNE.out.symm)).trans hHeld.1, fun c u hu => (cell_setRow_other _ V8 _ _ (by rw [add_block]; exact HNE.out.symm)).trans (hHeld.2 c u hu)⟩ (fun hHeld => ?_)
      clear hK K
      try simp only [Act.put, List.setIfInBounds_toArray, List.set_cons_zero, List.set_cons_succ]
      refine wpAnyH_done (by kernel_rfl) ?_ _
      have hP := HP7.out
      have hrv8 : r ≠ some V8 := fun e => by have := HRR.out V8 e; have := HV8.out; omega
      have hLV8 : L + 2 ≤ V8 := by have := HV8.out; have := HZ.out; omega
      have hG := (HG1.out.far (c := #[.string ek.g, .string ek.a, .string ek.t, .string ek.c, .bool eh, .bool fs, .string eo.g, .string eo.a, .string eo.t, .string eo.c, .string eo.v, .int .i64 eo.sc, .string en.g, .string en.a, .string en.t, .string en.c, .string en.v, .int .i64 en.sc]) hLV8 hrv8).far (c := #[.string ek.g, .string ek.a, .string ek.t, .string ek.c, .bool eh, .bool fs, .string eo.g, .string eo.a, .string eo.t, .string eo.c, .string eo.v, .int .i64 eo.sc, .string fn.g, .string fn.a, .string fn.t, .string fn.c, .string fn.v, .int .i64 fn.sc]) hLV8 hrv8
      have hF := (HF1.out.far (c := #[.string ek.g, .string ek.a, .string ek.t, .string ek.c, .bool eh, .bool fs, .string eo.g, .string eo.a, .string eo.t, .string eo.c, .string eo.v, .int .i64 eo.sc, .string en.g, .string en.a, .string en.t, .string en.c, .string en.v, .int .i64 en.sc]) hLV8).far (c := #[.string ek.g, .string ek.a, .string ek.t, .string ek.c, .bool eh, .bool fs, .string eo.g, .string eo.a, .string eo.t, .string eo.c, .string eo.v, .int .i64 eo.sc, .string fn.g, .string fn.a, .string fn.t, .string fn.c, .string fn.v, .int .i64 fn.sc]) hLV8
      have hS := (HS1.out.far (c := #[.string ek.g, .string ek.a, .string ek.t, .string ek.c, .bool eh, .bool fs, .string eo.g, .string eo.a, .string eo.t, .string eo.c, .string eo.v, .int .i64 eo.sc, .string en.g, .string en.a, .string en.t, .string en.c, .string en.v, .int .i64 en.sc]) HV8.out).far (c := #[.string ek.g, .string ek.a, .string ek.t, .string ek.c, .bool eh, .bool fs, .string eo.g, .string eo.a, .string eo.t, .string eo.c, .string eo.v, .int .i64 eo.sc, .string fn.g, .string fn.a, .string fn.t, .string fn.c, .string fn.v, .int .i64 fn.sc]) HV8.out
      generalize (wc.drew.setRow V8 #[.string ek.g, .string ek.a, .string ek.t, .string ek.c, .bool eh, .bool fs, .string eo.g, .string eo.a, .string eo.t, .string eo.c, .string eo.v, .int .i64 eo.sc, .string en.g, .string en.a, .string en.t, .string en.c, .string en.v, .int .i64 en.sc]).setRow V8 #[.string ek.g, .string ek.a, .string ek.t, .string ek.c, .bool eh, .bool fs, .string eo.g, .string eo.a, .string eo.t, .string eo.c, .string eo.v, .int .i64 eo.sc, .string fn.g, .string fn.a, .string fn.t, .string fn.c, .string fn.v, .int .i64 fn.sc] = w2 at hP hG hF hS ⊢
      have HPF := Lib.hid hP
      have HG := Lib.hid hG
      have HF := Lib.hid hF
      have HS := Lib.hid hS
      obtain ⟨y0, y1, y2, y3, y4, y5, y6, y7, y8, y9, y10, y11, y12, y13, y14, y15, y16, y17⟩ := hP.cells
      clear hP hG hF hS HP9 HP7 HP8 HG1 HF1 HS1 hHeld hrv8 hLV8 c5 p12
      have hNB : ∀ b, (eh != fs) = b → ∀ w, (binOp .neq 4 (.bool eh) (.bool fs)).run Try.prog w = .ok (.bool b) w := fun b h w => by
        subst h; cases eh <;> cases fs <;> rfl
      rcases HOF.out with ⟨h1, h2, h3⟩ | ⟨h1, h3⟩ | ⟨h1, h2, h3⟩
      · have HO := Lib.hid h3
        have hbe := hNB _ h1
        have heq2 := HEQ2.out
        rw [h2] at heq2
        clear h1 h2 h3 hNB
        go_wp2
        go_end0
        refine ⟨rfl, r, ?_, HF.out, HS.out⟩
        rw [HO.out]
        simpa using HG.out
      · have HO := Lib.hid h3
        have hbe := hNB _ h1
        clear h1 h3 hNB
        obtain ⟨v, hv, hown, hrv⟩ := HG.out.row
        have hc0 : w2.cell? ⟨L, 0, none⟩ = some v := by rw [cell_of_row w2 L 0 _ _ (0, 0) hv]; rfl
        have HV := Lib.hid hv
        have HRV := Lib.hid hrv
        have HOWN := Lib.hid hown
        have HLE := Lib.hid (show ∀ k, v.ownBlock = some k → L + 2 ≤ k from fun k hk => (hown.lt k hk).1)
        have HZ2 := Lib.hid HG.out.bs
        have HFR := Lib.hid (fun (w3 : World) (hg : w2.grownBy w3 v.ownBlock) => show w3.frozen? ⟨L, 0, none⟩ = false ∧ w3.heap[L]? = some (Obj.cells #[v] 29 (0, 0)) from by
          have h3 : w3.heap[L]? = some (Obj.cells #[v] 29 (0, 0)) := (hg.block L (by have := HZ2.out; omega) (fun e => by have := HLE.out L e.symm; omega)).trans HV.out
          exact ⟨frozen_of_row w3 L 0 _ _ h3, h3⟩)
        clear hv hrv hown
        go_wp2_with (first
          | (refine wpList_load_ed rfl _ rfl _ rfl ⟨ek, eh, fs, eo, fn⟩ HPF.out.edR ?_)
          | (at_builtin
             refine app18e ⟨ek, eh, fs, eo, fn⟩ rfl _ _ 29 50 rfl _ 248 (L + 2) out.length Try.underlying29 ed_info rfl v _ rfl HOWN.out (by simp [Act.eval]) (by have := HLN.out; omega) (by have := HLN.out; omega) HZ2.out ?_))
        intro v' w3 ho3 hg3 hne3
        obtain ⟨f1, hL3⟩ := HFR.out w3 hg3
        have hL4 : (w3.setCell ⟨L, 0, none⟩ v').heap[L]? = some (mkE v') := by
          have := heap_setCell_same w3 L 0 #[v] 29 v' hL3
          show _ = some (Obj.cells #[v'] 29 (0, 0))
          simpa using this
        have h34 : w3.grownBy (w3.setCell ⟨L, 0, none⟩ v') (some L) := ⟨rfl, rfl, rfl, by simp, fun k _ hk => heap_setCell_other w3 ⟨L, 0, none⟩ k v' (fun e => hk (by simp [e]))⟩
        have HFIN := Lib.hid (HG.out.add HV.out HRV.out HOWN.out (Below.refl _ w2) ho3 hg3 hne3 h34 hL4)
        have HFF := Lib.hid (FitAt.add HF.out HZ2.out (fun k hk => HLE.out k (by rw [← HRV.out]; exact hk)) (Below.refl _ w2) (by rw [HRV.out]; exact hg3) h34)
        have hc3 : w3.cell? ⟨L, 0, none⟩ = some v := by rw [cell_of_row w3 L 0 _ _ (0, 0) hL3]; rfl
        obtain ⟨g1, cap1, rfl⟩ : ∃ g cap, v' = .slice (some ⟨g, 0, none⟩) (out.length + 1) cap := by
          rcases ho3.2 with ⟨_, h0⟩ | ⟨g, cap, cur, hv, _⟩
          · omega
          · exact ⟨g, cap, hv⟩
        clear ho3 hg3 hne3 hL3 hL4 h34 hc0
        go_wp2
        go_end0
        refine ⟨rfl, _, ?_, HFF.out, HS.out.trans HFIN.out.2⟩
        rw [HO.out]
        have h := HFIN.out.1
        rw [← rowE_snoc] at h
        simpa using h
      · have HO := Lib.hid h3
        have hbe := hNB _ h1
        have heq2 := HEQ2.out
        rw [h2] at heq2
        clear h1 h2 h3 hNB
        obtain ⟨v, hv, hown, hrv⟩ := HG.out.row
        have hc0 : w2.cell? ⟨L, 0, none⟩ = some v := by rw [cell_of_row w2 L 0 _ _ (0, 0) hv]; rfl
        have HV := Lib.hid hv
        have HRV := Lib.hid hrv
        have HOWN := Lib.hid hown
        have HLE := Lib.hid (show ∀ k, v.ownBlock = some k → L + 2 ≤ k from fun k hk => (hown.lt k hk).1)
        have HZ2 := Lib.hid HG.out.bs
        have HFR := Lib.hid (fun (w3 : World) (hg : w2.grownBy w3 v.ownBlock) => show w3.frozen? ⟨L, 0, none⟩ = false ∧ w3.heap[L]? = some (Obj.cells #[v] 29 (0, 0)) from by
          have h3 : w3.heap[L]? = some (Obj.cells #[v] 29 (0, 0)) := (hg.block L (by have := HZ2.out; omega) (fun e => by have := HLE.out L e.symm; omega)).trans HV.out
          exact ⟨frozen_of_row w3 L 0 _ _ h3, h3⟩)
        clear hv hrv hown
        go_wp2_with (first
          | (refine wpList_load_ed rfl _ rfl _ rfl ⟨ek, eh, fs, eo, fn⟩ HPF.out.edR ?_)
          | (at_builtin
             refine app18e ⟨ek, eh, fs, eo, fn⟩ rfl _ _ 29 50 rfl _ 248 (L + 2) out.length Try.underlying29 ed_info rfl v _ rfl HOWN.out (by simp [Act.eval]) (by have := HLN.out; omega) (by have := HLN.out; omega) HZ2.out ?_))
        intro v' w3 ho3 hg3 hne3
        obtain ⟨f1, hL3⟩ := HFR.out w3 hg3
        have hL4 : (w3.setCell ⟨L, 0, none⟩ v').heap[L]? = some (mkE v') := by
          have := heap_setCell_same w3 L 0 #[v] 29 v' hL3
          show _ = some (Obj.cells #[v'] 29 (0, 0))
          simpa using this
        have h34 : w3.grownBy (w3.setCell ⟨L, 0, none⟩ v') (some L) := ⟨rfl, rfl, rfl, by simp, fun k _ hk => heap_setCell_other w3 ⟨L, 0, none⟩ k v' (fun e => hk (by simp [e]))⟩
        have HFIN := Lib.hid (HG.out.add HV.out HRV.out HOWN.out (Below.refl _ w2) ho3 hg3 hne3 h34 hL4)
        have HFF := Lib.hid (FitAt.add HF.out HZ2.out (fun k hk => HLE.out k (by rw [← HRV.out]; exact hk)) (Below.refl _ w2) (by rw [HRV.out]; exact hg3) h34)
        have hc3 : w3.cell? ⟨L, 0, none⟩ = some v := by rw [cell_of_row w3 L 0 _ _ (0, 0) hL3]; rfl
        obtain ⟨g1, cap1, rfl⟩ : ∃ g cap, v' = .slice (some ⟨g, 0, none⟩) (out.length + 1) cap := by
          rcases ho3.2 with ⟨_, h0⟩ | ⟨g, cap, cur, hv, _⟩
          · omega
          · exact ⟨g, cap, hv⟩
        clear ho3 hg3 hne3 hL3 hL4 h34 hc0
        go_wp2
        go_end0
        refine ⟨rfl, _, ?_, HFF.out, HS.out.trans HFIN.out.2⟩
        rw [HO.out]
        have h := HFIN.out.1
        rw [← rowE_snoc] at h
        simpa using h
end Go.Proofs.Ytoibanffaebllaa
