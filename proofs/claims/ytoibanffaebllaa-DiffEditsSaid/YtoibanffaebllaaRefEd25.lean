/-
  Layer 25: the contract of the answer's Edits. Own work.
-/
import Derived.Test.YtoibanffaebllaaKRow25c
import Derived.Test.YtoibanffaebllaaRefMay24
namespace Go.Proofs.Ytoibanffaebllaa
set_option linter.unusedVariables false
set_option linter.unusedSimpArgs false
open Go.RowKit

def RefEdP (mA mB : Bool) (A B : List Pn) (w : World) (e : Ending) (w' : World) : Prop :=
  ∃ v, e = .returned v ∧ Below w.heap.size w w' ∧ ((mA && mB) = false ∧ RdE w' v [] ∨ (mA && mB) = true ∧ ∃ keys, IsKeys (A ++ B) keys ∧ RdE w' v (edsR A B keys))
/-- the two boxes -/
def BX (w1 : World) (HA HB : Nat) (gA aA uA gB aB uB : ByteArray) (vA vB : Value) (lA lB : List Pn) (w : World) : Prop :=
  LkIn w HA gA aA uA vA ∧ LkIn w HB gB aB uB vB ∧ RdN w vA lA ∧ RdN w vB lB ∧ Below w1.heap.size w1 w
theorem BX.keep {w1 w w' : World} {HA HB : Nat} {gA aA uA gB aB uB : ByteArray} {vA vB : Value} {lA lB : List Pn} {B : Nat} (h : BX w1 HA HB gA aA uA gB aB uB vA vB lA lB w) (h1 : BX w1 HA HB gA aA uA gB aB uB vA vB lA lB w1) (hb : Below w1.heap.size w w') : BX w1 HA HB gA aA uA gB aB uB vA vB lA lB w' := by
  have hB := h.2.2.2.2.trans hb
  exact ⟨h1.1.below hB (Nat.le_refl _), h1.2.1.below hB (Nat.le_refl _), h1.2.2.1.below hB (Nat.le_refl _), h1.2.2.2.1.below hB (Nat.le_refl _), hB⟩
/-- the key's box, what was gathered -/
structure RK (B0 : World) (v : Value) (out : List Ed) (N1 : Nat) (q : K4) (w : World) : Prop where
  b : Below B0.heap.size B0 w
  o : w.ownsRow B0.heap.size 50 18 v out.length (rowE out)
  n : w.heap[N1]? = some (.cells #[.string q.g, .string q.a, .string q.t, .string q.c] 46 (0, 0))
/-- and the edit's -/
def RS (B0 : World) (v : Value) (out : List Ed) (N1 V : Nat) (q : K4) (e : Ed) (w : World) : Prop :=
  RK B0 v out N1 q w ∧ EdP w V e ∧ B0.heap.size ≤ V ∧ N1 ≠ V ∧ ∀ g, v.ownBlock = some g → g ≠ V
section
variable {B0 w w' : World} {v : Value} {out : List Ed} {N1 V : Nat} {q : K4} {e : Ed}
theorem RK.keyc (h : RK B0 v out N1 q w) : w.cell? ⟨N1, 0, none⟩ = some (.string q.g) ∧ w.cell? ⟨N1, 1, none⟩ = some (.string q.a) ∧ w.cell? ⟨N1, 2, none⟩ = some (.string q.t) ∧ w.cell? ⟨N1, 3, none⟩ = some (.string q.c) :=
  ⟨by rw [cell_of_row w N1 0 _ _ (0, 0) h.n]; rfl, by rw [cell_of_row w N1 1 _ _ (0, 0) h.n]; rfl, by rw [cell_of_row w N1 2 _ _ (0, 0) h.n]; rfl, by rw [cell_of_row w N1 3 _ _ (0, 0) h.n]; rfl⟩
theorem RK.keep (h : RK B0 v out N1 q w) (hb : Below w.heap.size w w') : RK B0 v out N1 q w' :=
  ⟨h.b.trans (hb.mono h.b.size), own_same h.o (fun g hg => hb.block g (h.o.lt g hg).2), (hb.block N1 (Array.getElem?_eq_some_iff.1 h.n).1).trans h.n⟩
theorem RS.keep (h : RS B0 v out N1 V q e w) (hb : Below w.heap.size w w') : RS B0 v out N1 V q e w' :=
  ⟨h.1.keep hb, (hb.block V (Array.getElem?_eq_some_iff.1 h.2.1).1).trans h.2.1, h.2.2⟩
theorem RS.store (h : RS B0 v out N1 V q e w) (e' : Ed) : RS B0 v out N1 V q e' (w.setRow V #[.string e'.key.g, .string e'.key.a, .string e'.key.t, .string e'.key.c, .bool e'.had, .bool e'.has, .string e'.old.g, .string e'.old.a, .string e'.old.t, .string e'.old.c, .string e'.old.v, .int .i64 e'.old.sc, .string e'.new.g, .string e'.new.a, .string e'.new.t, .string e'.new.c, .string e'.new.v, .int .i64 e'.new.sc]) :=
  ⟨⟨below_setRow h.1.b h.2.2.1, own_same h.1.o (fun g hg => setRow_other w V g _ (h.2.2.2.2 g hg)), (setRow_other w V N1 _ h.2.2.2.1).trans h.1.n⟩, setRow_heap w V _ _ _ _ h.2.1, h.2.2⟩
theorem RS.start (hb : Below B0.heap.size B0 w) (ho : w.ownsRow B0.heap.size 50 18 v out.length (rowE out)) (q : K4) :
    RK B0 v out w.heap.size q (w.alloc (.cells #[.string q.g, .string q.a, .string q.t, .string q.c] 46)) ∧ B0.heap.size ≤ w.heap.size :=
  ⟨⟨hb.alloc hb.size _, own_same ho (fun g hg => Below.heap_alloc _ _ _ (ho.lt g hg).2), heap_alloc_new w _⟩, hb.size⟩
theorem RS.edit (h : RK B0 v out N1 q w ∧ B0.heap.size ≤ N1) : RS B0 v out N1 w.heap.size q ⟨q, false, false, zP, zP⟩ (w.alloc (.cells #[.string q.g, .string q.a, .string q.t, .string q.c, .bool false, .bool false, .string ⟨#[]⟩, .string ⟨#[]⟩, .string ⟨#[]⟩, .string ⟨#[]⟩, .string ⟨#[]⟩, .int .i64 0, .string ⟨#[]⟩, .string ⟨#[]⟩, .string ⟨#[]⟩, .string ⟨#[]⟩, .string ⟨#[]⟩, .int .i64 0] 50)) :=
  ⟨h.1.keep ((Below.refl w.heap.size w).alloc (Nat.le_refl _) _), heap_alloc_new w _, h.1.b.size, fun e => by have := (Array.getElem?_eq_some_iff.1 h.1.n).1; omega, fun g hg e => by have := (h.1.o.lt g hg).2; omega⟩
end
theorem wpList_store_part {P : Program} {ops : Array Oper} {rest : List Oper} {o : Oper} {a : Act} {w : World} {Q : Exit → Act → World → Prop} (hgd : o.guard = none) (ty : TypeId) (x y : Operand) (ho : o.op = .store ty x y)
    (V off : Nat) (val : Value) (vs : Array Value) (hval : val.cells = vs) (hx : a.eval x = .pointer (some ⟨V, off, none⟩)) (hy : a.eval y = val)
    (t : TypeId) (cur : Array Value) (hg : w.heap[V]? = some (.cells cur t (0, 0))) (hi : (P.info? ty).map (·.size) = some vs.size)
    (hl : off + vs.size ≤ cur.size) (h1 : vs.all (·.oneCell') = true) (res : Array Value) (hres : (cur.toList.take off ++ vs.toList ++ cur.toList.drop (off + vs.size)).toArray = res)
    (h : wpList P ops Q rest (a.put o.dst undef) (w.setRow V res)) : wpList P ops Q (o :: rest) a w :=
  wpList_plain hgd fun _ hK => wp_store_part ty x y ho V off val vs hval hx hy t cur hg hi hl h1 res hres (hK _ _ h)
set_option maxRecDepth 100000 in
set_option maxHeartbeats 8000000 in
theorem refEdits_any (gA aA uA : ByteArray) (hgA : okT gA) (haA : okT aA) (huA : okT uA) (pvA : Value) (lA : List Pn) (okA : ∀ p ∈ lA, okP p) (hlA : lA.length ≤ 100000) (gB aB uB : ByteArray) (hgB : okT gB) (haB : okT aB) (huB : okT uB) (pvB : Value) (lB : List Pn) (okB : ∀ p ∈ lB, okP p) (hlB : lB.length ≤ 100000) (w : World) (hrA : RdN w pvA lA) (hrB : RdN w pvB lB) :
    Calls Try.prog 12 #[lockV gA aA uA pvA, lockV gB aB uB pvB] w (RefEdP (mayLock gA aA uA lA) (mayLock gB aB uB lB) lA lB w) := by
  obtain ⟨pA, qA, rfl⟩ := hrA.shape
  obtain ⟨pB, qB, rfl⟩ := hrB.shape
  have hma := fun w' hr => refMay_any gA aA uA hgA haA huA (.slice pA lA.length qA) lA okA (by omega) w' hr
  have hmb := fun w' hr => refMay_any gB aB uB hgB haB huB (.slice pB lB.length qB) lB okB (by omega) w' hr
  generalize mayLock gA aA uA lA = mA at hma ⊢
  generalize mayLock gB aB uB lB = mB at hmb ⊢
  unfold lockV at hma hmb ⊢
  have hb0 : Below w.heap.size w ((w.alloc (.cells #[.string gA, .string aA, .string uA, .slice pA lA.length qA] 26)).alloc (.cells #[.string gB, .string aB, .string uB, .slice pB lB.length qB] 26)) := ((Below.refl w.heap.size w).alloc (Nat.le_refl _) _).alloc (by simp) _
  have hk1 : LkIn ((w.alloc (.cells #[.string gA, .string aA, .string uA, .slice pA lA.length qA] 26)).alloc (.cells #[.string gB, .string aB, .string uB, .slice pB lB.length qB] 26)) w.heap.size gA aA uA (.slice pA lA.length qA) := (LkIn.new w gA aA uA _).below ((Below.refl _ _).alloc (Nat.le_refl _) _) (Nat.le_refl _)
  have hk2 : LkIn ((w.alloc (.cells #[.string gA, .string aA, .string uA, .slice pA lA.length qA] 26)).alloc (.cells #[.string gB, .string aB, .string uB, .slice pB lB.length qB] 26)) (w.heap.size + 1) gB aB uB (.slice pB lB.length qB) := by
    have := LkIn.new (w.alloc (.cells #[.string gA, .string aA, .string uA, .slice pA lA.length qA] 26)) gB aB uB (.slice pB lB.length qB)
    simpa using this
  have hbx : BX ((w.alloc (.cells #[.string gA, .string aA, .string uA, .slice pA lA.length qA] 26)).alloc (.cells #[.string gB, .string aB, .string uB, .slice pB lB.length qB] 26)) w.heap.size (w.heap.size + 1) gA aA uA gB aB uB (.slice pA lA.length qA) (.slice pB lB.length qB) lA lB ((w.alloc (.cells #[.string gA, .string aA, .string uA, .slice pA lA.length qA] 26)).alloc (.cells #[.string gB, .string aB, .string uB, .slice pB lB.length qB] 26)) := ⟨hk1, hk2, hrA.below hb0 (Nat.le_refl _), hrB.below hb0 (Nat.le_refl _), Below.refl _ _⟩
  have HMA := Lib.hid hma
  have HMB := Lib.hid hmb
  have HB0 := Lib.hid hb0
  clear hma hmb hrA hrB hb0 hk1 hk2 hgA haA huA hgB haB huB okA okB
  go_enter Try.func12, Try.ntmps12
  go_upto_region 1 with fail
  generalize ((w.alloc (.cells #[.string gA, .string aA, .string uA, .slice pA lA.length qA] 26)).alloc (.cells #[.string gB, .string aB, .string uB, .slice pB lB.length qB] 26)) = w1 at hbx HB0 ⊢
  obtain ⟨YB, hYB⟩ : ∃ H1, H1 = w.heap.size + 1 := ⟨_, rfl⟩
  rw [← hYB] at hbx
  simp only [← hYB]
  clear hYB
  have HBX := Lib.hid hbx
  obtain ⟨⟨x0, x1, x2, x3⟩, _, hra, _⟩ := hbx
  go_wp2_with fail
  refine (HMA.out _ hra).mono ?_
  rintro e w2 ⟨rfl, hb2⟩
  have HX2 := Lib.hid (HBX.out.keep (B := 0) HBX.out hb2)
  clear x0 x1 x2 x3 hra hb2
  cases mA
  · go_wp2
    go_ret
    exact ⟨_, rfl, HB0.out.trans (HX2.out.2.2.2.2.mono HB0.out.size), .inl ⟨rfl, .inl ⟨rfl, rfl⟩⟩⟩
  obtain ⟨_, ⟨y0, y1, y2, y3⟩, _, hrb, hbb⟩ := HX2.out
  go_wp2_with fail
  refine (HMB.out _ hrb).mono ?_
  rintro e w3 ⟨rfl, hb3⟩
  have HX3 := Lib.hid (HX2.out.keep (B := 0) HBX.out (hb3.mono hbb.size))
  clear y0 y1 y2 y3 hrb hb3 hbb
  cases mB
  · go_wp2
    go_ret
    exact ⟨_, rfl, HB0.out.trans (HX3.out.2.2.2.2.mono HB0.out.size), .inl ⟨rfl, .inl ⟨rfl, rfl⟩⟩⟩
  go_upto_region 4 with fail
  have HXD := Lib.hid (show BX w1 w.heap.size YB gA aA uA gB aB uB (.slice pA lA.length qA) (.slice pB lB.length qB) lA lB w3.drew from HX3.out.keep (B := 0) HBX.out (Below.refl _ _).drew)
  refine wp_region_held_drew (S := (fun w' => w'.cell? ⟨w.heap.size, 3, none⟩ = some (.slice pA lA.length qA) ∧ w'.cell? ⟨YB, 3, none⟩ = some (.slice pB lB.length qB) ∧ BX w1 w.heap.size YB gA aA uA gB aB uB (.slice pA lA.length qA) (.slice pB lB.length qB) lA lB w')) (by kernel_rfl) (by (try dsimp only); exact ⟨HXD.out.1.2.2.2, HXD.out.2.1.2.2.2, HXD.out⟩) (fun hHeld => ?_)
  generalize w3.drew = wd at HXD hHeld ⊢
  refine wpAnyH_take (i := 1) (v := ?_) (by (simp only [List.getElem?_toArray, List.getElem?_cons_succ, List.getElem?_cons_zero]; rfl)) (by kernel_rfl) (by kernel_rfl) (by kernel_rfl) (by intro _ _ _ h; exact h) (Or.inl ⟨by rfl, ?_⟩) (by assumption) ?_
  rotate_left
  · (intro w hSw; (try dsimp only at hSw); go_simp; try (with_reducible rfl))
  simp only [Act.put, List.setIfInBounds_toArray, List.set_cons_zero, List.set_cons_succ]
  refine wpAnyH_take (i := 2) (v := ?_) (by (simp only [List.getElem?_toArray, List.getElem?_cons_succ, List.getElem?_cons_zero]; rfl)) (by kernel_rfl) (by kernel_rfl) (by kernel_rfl) (by intro _ _ _ h; exact h) (Or.inl ⟨by rfl, ?_⟩) (by assumption) ?_
  rotate_left
  · (intro w hSw; (try dsimp only at hSw); go_simp; try (with_reducible rfl))
  simp only [Act.put, List.setIfInBounds_toArray, List.set_cons_zero, List.set_cons_succ]
  refine wpAnyH_take (i := 4) (v := ?_) (by (simp only [List.getElem?_toArray, List.getElem?_cons_succ, List.getElem?_cons_zero]; rfl)) (by kernel_rfl) (by kernel_rfl) (by kernel_rfl) (by intro _ _ _ h; exact h) (Or.inl ⟨by rfl, ?_⟩) (by assumption) ?_
  rotate_left
  · (intro w hSw; (try dsimp only at hSw); go_simp; try (with_reducible rfl))
  simp only [Act.put, List.setIfInBounds_toArray, List.set_cons_zero, List.set_cons_succ]
  refine wpAnyH_take (i := 5) (v := ?_) (by (simp only [List.getElem?_toArray, List.getElem?_cons_succ, List.getElem?_cons_zero]; rfl)) (by kernel_rfl) (by kernel_rfl) (by kernel_rfl) (by intro _ _ _ h; exact h) (Or.inl ⟨by rfl, ?_⟩) (by assumption) ?_
  rotate_left
  · (intro w hSw; (try dsimp only at hSw); go_simp; try (with_reducible rfl))
  simp only [Act.put, List.setIfInBounds_toArray, List.set_cons_zero, List.set_cons_succ]
  refine wpAnyH_take (i := 9) (v := ?_) (by (simp only [List.getElem?_toArray, List.getElem?_cons_succ, List.getElem?_cons_zero]; rfl)) (by kernel_rfl) (by kernel_rfl) (by kernel_rfl) (by intro _ _ _ h; exact h) (Or.inl ⟨by rfl, ?_⟩) (by assumption) ?_
  rotate_left
  · (intro w hSw; (try dsimp only at hSw); go_simp; try (with_reducible rfl))
  simp only [Act.put, List.setIfInBounds_toArray, List.set_cons_zero, List.set_cons_succ]
  have hsz := HXD.out.2.2.2.2.size
  have HSZ := Lib.hid hsz
  clear hsz hHeld
  refine wpAnyH_ready (rs := [0]) (by kernel_rfl) (by simp) ?_
  refine AllReadyH.cons (by (simp only [List.getElem?_toArray, List.getElem?_cons_succ, List.getElem?_cons_zero]; rfl)) (fun K hK => ?_) AllReadyH.nil
  go_simp
  have hal : Below w1.heap.size wd (wd.alloc (.cells #[] 48)) := (Below.refl _ _).alloc HSZ.out _
  have HXE := Lib.hid (HXD.out.keep (B := 0) HBX.out hal)
  clear hal
  generalize wd.alloc (.cells #[] 48) = we at HXE ⊢
  generalize wd.heap.size = X
  refine hK.out _ _ ⟨HXE.out.1.2.2.2, HXE.out.2.1.2.2.2, HXE.out⟩ (fun hHeld => ?_)
  clear hK K hHeld
  try simp only [Act.put, List.setIfInBounds_toArray, List.set_cons_zero, List.set_cons_succ]
  refine wpAnyH_ready (rs := [3]) (by kernel_rfl) (by simp) ?_
  refine AllReadyH.cons (by (simp only [List.getElem?_toArray, List.getElem?_cons_succ, List.getElem?_cons_zero]; rfl)) (fun K hK => ?_) AllReadyH.nil
  refine wp_app_pins w1.heap.size _ _ rfl (.slice (some ⟨X, 0, none⟩) 0 0) (.slice pA lA.length qA) rfl rfl [] lA HXE.out.2.2.2.2.size (.inl ⟨rfl, _, rfl⟩) HXE.out.2.2.1 (by simp; omega) ?_
  intro v1 wf ho1 hb1
  have HXF := Lib.hid (HXE.out.keep (B := 0) HBX.out hb1)
  have HO1 := Lib.hid ho1
  clear ho1 hb1
  refine hK.out _ _ ⟨HXF.out.1.2.2.2, HXF.out.2.1.2.2.2, HXF.out⟩ (fun hHeld => ?_)
  clear hK K hHeld
  try simp only [Act.put, List.setIfInBounds_toArray, List.set_cons_zero, List.set_cons_succ]
  refine wpAnyH_ready (rs := [6]) (by kernel_rfl) (by simp) ?_
  refine AllReadyH.cons (by (simp only [List.getElem?_toArray, List.getElem?_cons_succ, List.getElem?_cons_zero]; rfl)) (fun K hK => ?_) AllReadyH.nil
  refine wp_app_pins w1.heap.size _ _ rfl v1 (.slice pB lB.length qB) rfl rfl ([] ++ lA) lB HXF.out.2.2.2.2.size HO1.out HXF.out.2.2.2.1 (by simp; omega) ?_
  intro v2 wg ho2 hb2
  have HXG := Lib.hid (HXF.out.keep (B := 0) HBX.out hb2)
  have HO2 := Lib.hid ho2.rd
  clear ho2 hb2
  refine hK.out _ _ ⟨HXG.out.1.2.2.2, HXG.out.2.1.2.2.2, HXG.out⟩ (fun hHeld => ?_)
  clear hK K hHeld
  try simp only [Act.put, List.setIfInBounds_toArray, List.set_cons_zero, List.set_cons_succ]
  refine wpAnyH_ready (rs := [7]) (by kernel_rfl) (by simp) ?_
  refine AllReadyH.cons (by (simp only [List.getElem?_toArray, List.getElem?_cons_succ, List.getElem?_cons_zero]; rfl)) (fun K hK => ?_) AllReadyH.nil
  go_simp
  have hky := Keys_any v2 ([] ++ lA ++ lB) (by simp; omega) wg HO2.out
  go_at_call 29
  refine hky.mono ?_
  rintro e wh ⟨v3, keys, rfl, hrk, hik, hbx⟩
  clear hky
  go_wp2_with fail
  obtain ⟨ka, kc, rfl⟩ := hrk.shape
  have HXH := Lib.hid (HXG.out.keep (B := 0) HBX.out (hbx.mono HXG.out.2.2.2.2.size))
  have HRK := Lib.hid hrk
  have HIK := Lib.hid hik
  clear hrk hik hbx
  refine hK.out _ _ ⟨HXH.out.1.2.2.2, HXH.out.2.1.2.2.2, HXH.out⟩ (fun hHeld => ?_)
  clear hK K hHeld
  try simp only [Act.put, List.setIfInBounds_toArray, List.set_cons_zero, List.set_cons_succ]
  refine wpAnyH_take (i := 8) (v := ?_) (by (simp only [List.getElem?_toArray, List.getElem?_cons_succ, List.getElem?_cons_zero]; rfl)) (by kernel_rfl) (by kernel_rfl) (by kernel_rfl) (by intro _ _ _ h; exact h) (Or.inl ⟨by rfl, ?_⟩) ⟨HXH.out.1.2.2.2, HXH.out.2.1.2.2.2, HXH.out⟩ ?_
  rotate_left
  · (intro w hSw; (try dsimp only at hSw); go_simp; try (with_reducible rfl))
  simp only [Act.put, List.setIfInBounds_toArray, List.set_cons_zero, List.set_cons_succ]
  refine wpAnyH_done (by kernel_rfl) ?_ _
  have hkl : keys.length ≤ 200000 := by have := HIK.out.2.2; simp at this; omega
  have hklI : (keys.length : Int) ≤ 200000 := by omega
  go_wp2_with fail
  go_loopw [5, 26] (fun v i wr => ∃ k : Nat, k ≤ keys.length ∧ i = .int .i64 k ∧ wr.ownsRow wh.heap.size 50 18 v (edsR lA lB (keys.take k)).length (rowE (edsR lA lB (keys.take k))) ∧ Below wh.heap.size wh wr) (fun _ i _ => keys.length - (intOf i).toNat)
  case atStart => exact ⟨0, by omega, rfl, World.ownsRow_nil _ _ _ _, Below.refl _ _⟩
  case round =>
    obtain ⟨k, hk, rfl, hown, hb⟩ := hrel
    have HB := Lib.hid hb
    obtain ⟨I, hI⟩ : ∃ I : Int, I = (k : Int) := ⟨_, rfl⟩
    have hIt : I.toNat = k := by omega
    have hI0 : (0 : Int) ≤ I := by omega
    have HI := Lib.hid hI
    rw [← hI]
    by_cases hlt : k < keys.length
    · obtain ⟨q, hq⟩ : ∃ q, keys[k]? = some q := ⟨_, List.getElem?_eq_getElem hlt⟩
      obtain ⟨b2, rfl, hkr⟩ := HRK.out.elem hq
      have hkr := hkr.below hb (Nat.le_refl _)
      rw [← hIt] at hkr
      have hltI : I < keys.length := by omega
      have k0 : wr.cell? (b2.add (I.toNat * 4)) = some (.string q.g) := hkr 0 _ rfl
      have k1 : wr.cell? ⟨(b2.add (I.toNat * 4)).block, (b2.add (I.toNat * 4)).off + 1, none⟩ = some (.string q.a) := hkr 1 _ rfl
      have k2 : wr.cell? ⟨(b2.add (I.toNat * 4)).block, (b2.add (I.toNat * 4)).off + 2, none⟩ = some (.string q.t) := hkr 2 _ rfl
      have k3 : wr.cell? ⟨(b2.add (I.toNat * 4)).block, (b2.add (I.toNat * 4)).off + 3, none⟩ = some (.string q.c) := hkr 3 _ rfl
      have hsucc : edsR lA lB (keys.take (k + 1)) = edsR lA lB (keys.take k) ++ (edR lA lB q).toList := by
        unfold edsR; rw [List.take_add_one, hq, List.filterMap_append]; cases h : edR lA lB q <;> simp [h]
      have HSUC := Lib.hid hsucc
      have hol : (edsR lA lB (keys.take k)).length ≤ 200000 := by have := List.length_filterMap_le (edR lA lB) (keys.take k); have h2 := List.length_take_le k keys; unfold edsR; omega
      have HOL := Lib.hid hol
      generalize edsR lA lB (keys.take k) = out at hown HSUC HOL
      clear hsucc hol hI hIt hkr hq
      have hnk := heap_alloc_new wr (.cells #[.string q.g, .string q.a, .string q.t, .string q.c] 46)
      have hal : Below wh.heap.size wr (wr.alloc (.cells #[.string q.g, .string q.a, .string q.t, .string q.c] 46)) := (Below.refl _ _).alloc hb.size _
      go_upto_region 7 with fail
      have hrs := RS.start hb hown q
      generalize wr.alloc (.cells #[.string q.g, .string q.a, .string q.t, .string q.c] 46) = wa at hrs hal ⊢
      generalize wr.heap.size = N1 at hrs ⊢
      clear hb hown hnk hal k0 k1 k2 k3
      obtain ⟨n0, n1, n2, n3⟩ := hrs.1.keyc
      have hrs2 := RS.edit hrs
      go_upto_region 8 with fail
      generalize wa.alloc (.cells #[.string q.g, .string q.a, .string q.t, .string q.c, .bool false, .bool false, .string ⟨#[]⟩, .string ⟨#[]⟩, .string ⟨#[]⟩, .string ⟨#[]⟩, .string ⟨#[]⟩, .int .i64 0, .string ⟨#[]⟩, .string ⟨#[]⟩, .string ⟨#[]⟩, .string ⟨#[]⟩, .string ⟨#[]⟩, .int .i64 0] 50) = wb at hrs2 ⊢
      generalize wa.heap.size = V at hrs2 ⊢
      clear hrs n0 n1 n2 n3
      obtain ⟨o1, ho1⟩ : ∃ o, o = (findP q lA).getD zP := ⟨_, rfl⟩
      obtain ⟨b1, hb1⟩ : ∃ o, o = (findP q lA).isSome := ⟨_, rfl⟩
      obtain ⟨o2, ho2⟩ : ∃ o, o = (findP q lB).getD zP := ⟨_, rfl⟩
      obtain ⟨c2, hc2⟩ : ∃ o, o = (findP q lB).isSome := ⟨_, rfl⟩
      have hfA := fun w' hr => find_any (.slice pA lA.length qA) lA q (by omega) w' hr
      have hfB := fun w' hr => find_any (.slice pB lB.length qB) lB q (by omega) w' hr
      have hed : edR lA lB q = if (b1 != c2) = true ∨ sameP o1 o2 = false then some ⟨q, b1, c2, o1, o2⟩ else none := by rw [ho1, hb1, ho2, hc2]; rfl
      unfold FindP at hfA hfB
      rw [← ho1, ← hb1] at hfA
      rw [← ho2, ← hc2] at hfB
      unfold pnV K4.val keyV at hfA hfB
      generalize edR lA lB q = OE at hed HSUC
      have HFA := Lib.hid hfA
      have HFB := Lib.hid hfB
      have HED := Lib.hid hed
      clear hfA hfB hed ho1 hb1 ho2 hc2
      have HR0 := Lib.hid hrs2
      have hbx0 := HXH.out.keep (B := 0) HBX.out (hrs2.1.b.mono HXH.out.2.2.2.2.size)
      obtain ⟨⟨_, _, _, x3⟩, _, hra, _⟩ := hbx0
      obtain ⟨n0, n1, n2, n3⟩ := hrs2.1.keyc
      clear hrs2
      go_wp2_with fail
      refine (HFA.out _ hra).mono ?_
      rintro e wc ⟨rfl, hbc⟩
      have HR1 := Lib.hid (HR0.out.keep hbc)
      have HR2 := Lib.hid (HR1.out.store ⟨q, false, false, o1, zP⟩)
      have HR3 := Lib.hid (HR2.out.store ⟨q, b1, false, o1, zP⟩)
      clear x3 hra n0 n1 n2 n3 hbc
      go_upto_region 9 with (first
        | (refine wpList_store_part rfl 48 _ _ rfl V 6 (.agg #[.string o1.g, .string o1.a, .string o1.t, .string o1.c, .string o1.v, .int .i64 o1.sc]) #[.string o1.g, .string o1.a, .string o1.t, .string o1.c, .string o1.v, .int .i64 o1.sc] rfl rfl rfl 50 _ HR1.out.2.1 (by kernel_rfl) (by simp) (by simp [Value.oneCell']) #[.string q.g, .string q.a, .string q.t, .string q.c, .bool false, .bool false, .string o1.g, .string o1.a, .string o1.t, .string o1.c, .string o1.v, .int .i64 o1.sc, .string ⟨#[]⟩, .string ⟨#[]⟩, .string ⟨#[]⟩, .string ⟨#[]⟩, .string ⟨#[]⟩, .int .i64 0] rfl ?_)
        | (refine wpList_store_part rfl 4 _ _ rfl V 4 (.bool b1) #[.bool b1] rfl rfl rfl 50 _ HR2.out.2.1 (by kernel_rfl) (by simp) (by simp [Value.oneCell']) #[.string q.g, .string q.a, .string q.t, .string q.c, .bool b1, .bool false, .string o1.g, .string o1.a, .string o1.t, .string o1.c, .string o1.v, .int .i64 o1.sc, .string ⟨#[]⟩, .string ⟨#[]⟩, .string ⟨#[]⟩, .string ⟨#[]⟩, .string ⟨#[]⟩, .int .i64 0] rfl ?_))
      have hr3 := (show RS wh _ out N1 V q ⟨q, b1, false, o1, zP⟩ ((wc.setRow V #[.string q.g, .string q.a, .string q.t, .string q.c, .bool false, .bool false, .string o1.g, .string o1.a, .string o1.t, .string o1.c, .string o1.v, .int .i64 o1.sc, .string ⟨#[]⟩, .string ⟨#[]⟩, .string ⟨#[]⟩, .string ⟨#[]⟩, .string ⟨#[]⟩, .int .i64 0]).setRow V #[.string q.g, .string q.a, .string q.t, .string q.c, .bool b1, .bool false, .string o1.g, .string o1.a, .string o1.t, .string o1.c, .string o1.v, .int .i64 o1.sc, .string ⟨#[]⟩, .string ⟨#[]⟩, .string ⟨#[]⟩, .string ⟨#[]⟩, .string ⟨#[]⟩, .int .i64 0]) from HR3.out)
      clear HR1 HR2 HR3 HR0
      generalize (wc.setRow V #[.string q.g, .string q.a, .string q.t, .string q.c, .bool false, .bool false, .string o1.g, .string o1.a, .string o1.t, .string o1.c, .string o1.v, .int .i64 o1.sc, .string ⟨#[]⟩, .string ⟨#[]⟩, .string ⟨#[]⟩, .string ⟨#[]⟩, .string ⟨#[]⟩, .int .i64 0]).setRow V #[.string q.g, .string q.a, .string q.t, .string q.c, .bool b1, .bool false, .string o1.g, .string o1.a, .string o1.t, .string o1.c, .string o1.v, .int .i64 o1.sc, .string ⟨#[]⟩, .string ⟨#[]⟩, .string ⟨#[]⟩, .string ⟨#[]⟩, .string ⟨#[]⟩, .int .i64 0] = wd2 at hr3 ⊢
      simp only [Act.put]
      have HR4 := Lib.hid hr3
      have hbx0 := HXH.out.keep (B := 0) HBX.out (hr3.1.b.mono HXH.out.2.2.2.2.size)
      obtain ⟨_, ⟨_, _, _, x3⟩, _, hrb, _⟩ := hbx0
      obtain ⟨n0, n1, n2, n3⟩ := hr3.1.keyc
      clear hr3
      go_wp2_with fail
      refine (HFB.out _ hrb).mono ?_
      rintro e we2 ⟨rfl, hbc⟩
      have HR5 := Lib.hid (HR4.out.keep hbc)
      have HR6 := Lib.hid (HR5.out.store ⟨q, b1, false, o1, o2⟩)
      have HR7 := Lib.hid (HR6.out.store ⟨q, b1, c2, o1, o2⟩)
      clear x3 hrb n0 n1 n2 n3 hbc
      go_upto_region 10 with (first
        | (refine wpList_store_part rfl 48 _ _ rfl V 12 (.agg #[.string o2.g, .string o2.a, .string o2.t, .string o2.c, .string o2.v, .int .i64 o2.sc]) #[.string o2.g, .string o2.a, .string o2.t, .string o2.c, .string o2.v, .int .i64 o2.sc] rfl rfl rfl 50 _ HR5.out.2.1 (by kernel_rfl) (by simp) (by simp [Value.oneCell']) #[.string q.g, .string q.a, .string q.t, .string q.c, .bool b1, .bool false, .string o1.g, .string o1.a, .string o1.t, .string o1.c, .string o1.v, .int .i64 o1.sc, .string o2.g, .string o2.a, .string o2.t, .string o2.c, .string o2.v, .int .i64 o2.sc] rfl ?_)
        | (refine wpList_store_part rfl 4 _ _ rfl V 5 (.bool c2) #[.bool c2] rfl rfl rfl 50 _ HR6.out.2.1 (by kernel_rfl) (by simp) (by simp [Value.oneCell']) #[.string q.g, .string q.a, .string q.t, .string q.c, .bool b1, .bool c2, .string o1.g, .string o1.a, .string o1.t, .string o1.c, .string o1.v, .int .i64 o1.sc, .string o2.g, .string o2.a, .string o2.t, .string o2.c, .string o2.v, .int .i64 o2.sc] rfl ?_))
      have hr7 := HR7.out
      clear HR4 HR5 HR6 HR7
      generalize (we2.setRow V #[.string q.g, .string q.a, .string q.t, .string q.c, .bool b1, .bool false, .string o1.g, .string o1.a, .string o1.t, .string o1.c, .string o1.v, .int .i64 o1.sc, .string o2.g, .string o2.a, .string o2.t, .string o2.c, .string o2.v, .int .i64 o2.sc]).setRow V #[.string q.g, .string q.a, .string q.t, .string q.c, .bool b1, .bool c2, .string o1.g, .string o1.a, .string o1.t, .string o1.c, .string o1.v, .int .i64 o1.sc, .string o2.g, .string o2.a, .string o2.t, .string o2.c, .string o2.v, .int .i64 o2.sc] = wf2 at hr7 ⊢
      simp only [Act.put]
      have HRS := Lib.hid hr7
      obtain ⟨y0, y1, y2, y3, y4, y5, y6, y7, y8, y9, y10, y11, y12, y13, y14, y15, y16, y17⟩ := (show EdP wf2 V ⟨q, b1, c2, o1, o2⟩ from hr7.2.1).cells
      clear hr7
      have hNB : ∀ b, (b1 != c2) = b → ∀ w, (binOp .neq 4 (.bool b1) (.bool c2)).run Try.prog w = .ok (.bool b) w := fun b h w => by
        subst h; cases b1 <;> cases c2 <;> rfl
      have hNP := fun w => neq_pin o1 o2 w
      have hOE : ((b1 != c2) = true ∧ OE = some ⟨q, b1, c2, o1, o2⟩) ∨ ((b1 != c2) = false ∧ sameP o1 o2 = false ∧ OE = some ⟨q, b1, c2, o1, o2⟩) ∨ ((b1 != c2) = false ∧ sameP o1 o2 = true ∧ OE = none) := by
        rw [HED.out]
        cases h1 : (b1 != c2)
        · cases h2 : sameP o1 o2
          · exact .inr (.inl ⟨rfl, rfl, by simp⟩)
          · exact .inr (.inr ⟨rfl, rfl, by simp⟩)
        · exact .inl ⟨rfl, by simp⟩
      generalize sameP o1 o2 = s12 at hNP hOE
      have HNP := Lib.hid hNP
      clear hNP
      have HNB := Lib.hid hNB
      clear hNB
      rcases hOE with ⟨h1, h3⟩ | ⟨h1, h2, h3⟩ | ⟨h1, h2, h3⟩
      · have hbe := HNB.out _ h1
        have HO := Lib.hid h3
        clear h1 h3
        go_wp2_with (first
          | (refine wpList_load_ed rfl _ rfl _ rfl ⟨q, b1, c2, o1, o2⟩ (EdP.edR HRS.out.2.1) ?_)
          | (at_builtin
             refine app18e ⟨q, b1, c2, o1, o2⟩ rfl _ _ 29 50 rfl _ 248 wh.heap.size out.length Try.underlying29 ed_info rfl _ _ rfl HRS.out.1.o (by simp [Act.eval]) (by have := HOL.out; omega) (by have := HOL.out; omega) HRS.out.1.b.size ?_))
        intro v' w3 ho3 hg3 hne3
        have HO3 := Lib.hid ho3
        have HB3 := Lib.hid (HRS.out.1.b.grown hg3 HRS.out.1.b.size (fun k hk => (HRS.out.1.o.lt k hk).1))
        clear ho3 hg3 hne3
        go_wp2
        go_roundw
        case rel =>
          refine ⟨k + 1, by omega, by rw [HI.out]; go_num, ?_, HB3.out⟩
          rw [HSUC.out, HO.out]
          have h := HO3.out
          rw [← rowE_snoc] at h
          simpa using h
        case measure => rw [HI.out]; simp [intOf]; omega
      · have hbe := HNB.out _ h1
        have hpe := HNP.out
        rw [h2] at hpe
        have HO := Lib.hid h3
        clear h1 h2 h3
        go_wp2_with (first
          | (refine wpList_load_ed rfl _ rfl _ rfl ⟨q, b1, c2, o1, o2⟩ (EdP.edR HRS.out.2.1) ?_)
          | (at_builtin
             refine app18e ⟨q, b1, c2, o1, o2⟩ rfl _ _ 29 50 rfl _ 248 wh.heap.size out.length Try.underlying29 ed_info rfl _ _ rfl HRS.out.1.o (by simp [Act.eval]) (by have := HOL.out; omega) (by have := HOL.out; omega) HRS.out.1.b.size ?_))
        intro v' w3 ho3 hg3 hne3
        have HO3 := Lib.hid ho3
        have HB3 := Lib.hid (HRS.out.1.b.grown hg3 HRS.out.1.b.size (fun k hk => (HRS.out.1.o.lt k hk).1))
        clear ho3 hg3 hne3
        go_wp2
        go_roundw
        case rel =>
          refine ⟨k + 1, by omega, by rw [HI.out]; go_num, ?_, HB3.out⟩
          rw [HSUC.out, HO.out]
          have h := HO3.out
          rw [← rowE_snoc] at h
          simpa using h
        case measure => rw [HI.out]; simp [intOf]; omega
      · have hbe := HNB.out _ h1
        have hpe := HNP.out
        rw [h2] at hpe
        have HO := Lib.hid h3
        clear h1 h2 h3
        go_wp2
        go_roundw
        case rel =>
          refine ⟨k + 1, by omega, by rw [HI.out]; go_num, ?_, HRS.out.1.b⟩
          rw [HSUC.out, HO.out]
          simpa using HRS.out.1.o
        case measure => rw [HI.out]; simp [intOf]; omega
    · have hlt' : (keys.length : Int) ≤ I := by have := HI.out; omega
      have HOWN := Lib.hid (show RdE wr _ (edsR lA lB keys) from by rw [List.take_of_length_le (by omega)] at hown; exact RdE.of_own hown)
      have HXR := Lib.hid (HXH.out.keep (B := 0) HBX.out (hb.mono HXH.out.2.2.2.2.size))
      obtain ⟨va, vc, hve⟩ := HOWN.out.shape
      subst hve
      clear hb hown hI hIt
      go_wp2
      go_ret
      exact ⟨_, rfl, HB0.out.trans (HXR.out.2.2.2.2.mono HB0.out.size), .inr ⟨rfl, keys, by simpa using HIK.out, HOWN.out⟩⟩
end Go.Proofs.Ytoibanffaebllaa
