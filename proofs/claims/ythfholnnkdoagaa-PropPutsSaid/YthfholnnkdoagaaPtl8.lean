/-
  Layer 8: a copy of properties, the answer's Put, properties over properties (cut out of layer 10's). Own work.
-/
import Derived.Test.YthfholnnkdoagaaAt8
import Derived.Test.YthfholnnkdoagaaRowP10
import Derived.Lib.BufferMore
namespace Go.Proofs.Ythfholnnkdoagaa
set_option linter.unusedVariables false
set_option linter.unusedSimpArgs false
open Go.RowKit

def CloP (w : World) (e sz n : Nat) (xs : List Value) (en : Ending) (w' : World) : Prop := ∃ v, en = .returned v ∧ w'.ownsRow w.heap.size e sz v n xs ∧ Below w.heap.size w w'
theorem CloneP_any (v : Value) (n : Nat) (xs : List Value) (w : World) (h : Raw w 2 v n xs) (hn : n ≤ 100000) :
    Calls Try.prog 32 #[v] w (CloP w 33 2 n xs) := by
  have HH := Lib.hid h
  rcases h.2 with ⟨rfl, rfl⟩ | ⟨a, cap, rfl, h2, h3, _⟩
  · have hx : xs = [] := List.eq_nil_of_length_eq_zero (by have := h.1; omega)
    subst hx
    clear h
    have hnil := fun w => Lib.run_eql_slice_nil_nil (P := Try.prog) w 0 0 Try.underlying27
    go_enter Try.func32, Try.ntmps32
    go_wp2
    go_ret
    exact ⟨_, rfl, World.ownsRow_nil _ _ _ _, Below.refl _ _⟩
  · clear h
    have hnil := fun w => Lib.run_eql_slice_some_nil (P := Try.prog) w a n cap Try.underlying27
    go_enter Try.func32, Try.ntmps32
    go_wp2_with (at_builtin
                 refine wpList_copy rfl _ _ rfl Try.underlying27 prop_info rfl (by decide) w (.slice (some a) n cap) n xs rfl rfl HH.out (by omega) (by omega) ?_)
    intro v2 w2 hown hb2
    have HO := Lib.hid hown
    have HB := Lib.hid hb2
    clear hown hb2
    go_wp2
    go_ret
    exact ⟨_, rfl, HO.out, HB.out⟩
section
variable {w w' : World} {B B' e size n b t : Nat} {v : Value} {xs : List Value} {cs : Array Value}
theorem own_mono10 (h : w.ownsRow B e size v n xs) (hB : B' ≤ B) : w.ownsRow B' e size v n xs := by
  obtain ⟨h0, h1 | ⟨g, cap, cur, h2, h3, h4⟩⟩ := h
  · exact ⟨h0, .inl h1⟩
  · exact ⟨h0, .inr ⟨g, cap, cur, h2, Nat.le_trans hB h3, h4⟩⟩
theorem own_below10 (h : w.ownsRow B e size v n xs) (hb : Below w.heap.size w w') : w'.ownsRow B e size v n xs :=
  h.kept (⟨hb.os, hb.tape, hb.output, hb.size, fun k hk _ => hb.block k hk⟩ : w.grownBy w' none) (by cases hv : v.ownBlock <;> simp)
theorem own_ty10 (h : w.ownsRow B e size v n xs) (ho : w.heap[b]? = some (Obj.cells cs t (0, 0))) (ht : t ≠ e) : v.ownBlock = none ∨ v.ownBlock ≠ some b := by
  rcases h.2 with ⟨rfl, _⟩ | ⟨g, cap, cur, rfl, _, hg, _⟩
  · exact .inl rfl
  · refine .inr (fun hb => ?_)
    simp [Value.ownBlock] at hb
    subst hb
    rw [ho] at hg
    simp at hg
    exact ht hg.2
end
/-- a row with a property put -/
def putL (l : List Pr) (p : Pr) : List Pr := match l.findIdx? (fun q => eqS q.n p.n) with
  | some i => l.set i ⟨(l.getD i p).n, p.v⟩
  | none => l ++ [p]
theorem putL_len (l : List Pr) (p : Pr) : (putL l p).length ≤ l.length + 1 := by
  unfold putL
  split <;> simp
def PutP (l : List Pr) (p : Pr) (w : World) (e : Ending) (w' : World) : Prop := ∃ v, e = .returned v ∧ w'.ownsRow w.heap.size 33 2 v (putL l p).length (rowPr (putL l p)) ∧ Below w.heap.size w w'
theorem own_below {w w' : World} {base e size n : Nat} {v : Value} {xs : List Value} (h : w.ownsRow base e size v n xs) (hb : Below w.heap.size w w') : w'.ownsRow base e size v n xs :=
  h.kept (⟨hb.os, hb.tape, hb.output, hb.size, fun k hk _ => hb.block k hk⟩ : w.grownBy w' none) (by cases hv : v.ownBlock <;> simp)
set_option maxRecDepth 100000 in
set_option maxHeartbeats 4000000 in
theorem Put_any (l : List Pr) (p : Pr) (va : Value) (w : World) (ha : RdPs w va l) (hn : l.length ≤ 100000) :
    Calls Try.prog 18 #[va, .agg #[.string p.n, .string p.v]] w (PutP l p w) := by
  obtain ⟨aa, ac, rfl⟩ := RdSl.shape ha
  have hlI : (l.length : Int) ≤ 100000 := by omega
  have hb0 : Below w.heap.size w (w.alloc (.cells #[.string p.n, .string p.v] 33)) := (Below.refl w.heap.size w).alloc (Nat.le_refl _) _
  have hnew := heap_alloc_new w (.cells #[.string p.n, .string p.v] 33)
  have HA := Lib.hid (ha.below hb0 (Nat.le_refl _))
  have HB0 := Lib.hid hb0
  clear ha hb0
  go_enter Try.func18, Try.ntmps18
  go_upto_region 1 with fail
  generalize w.alloc (.cells #[.string p.n, .string p.v] 33) = w1 at hnew HA HB0 ⊢
  generalize w.heap.size = D at hnew ⊢
  have HN := Lib.hid hnew
  have hraw := RdPs.raw HA.out
  clear hnew
  go_wp2_with (at_builtin
               refine wpList_copy rfl _ _ rfl Try.underlying27 prop_info rfl (by decide) w1 (.slice aa l.length ac) l.length (rowPr l) rfl rfl hraw (by omega) (by omega) ?_)
  intro v2 w2 hown hb2
  have hd := (hb2.block D (Array.getElem?_eq_some_iff.1 HN.out).1).trans HN.out
  have x0 : w2.cell? ⟨D, 0, none⟩ = some (.string p.n) := by rw [cell_of_row w2 D 0 _ _ (0, 0) hd]; rfl
  have HOP := Lib.hid (At_any l p.n _ w2 (HA.out.below hb2 (Nat.le_refl _)))
  have HOWN := Lib.hid hown
  have HB2 := Lib.hid hb2
  clear hraw hown hb2 hd
  cases hf : l.findIdx? (fun q => eqS q.n p.n) with
  | none =>
    have hat : atI l p.n = -1 := by unfold atI; rw [hf]
    have HP := Lib.hid (show putL l p = l ++ [p] by unfold putL; rw [hf])
    clear hf
    go_wp2_with fail
    refine HOP.out.mono ?_
    rintro e w3 ⟨rfl, hb3⟩
    rw [hat]
    have hown := own_below HOWN.out hb3
    have HB3 := Lib.hid (HB2.out.trans (hb3.mono HB2.out.size))
    have hd := (HB3.out.block D (Array.getElem?_eq_some_iff.1 HN.out).1).trans HN.out
    clear x0 HOP hb3 hat
    have x0 : w3.cell? ⟨D, 0, none⟩ = some (.string p.n) := by rw [cell_of_row w3 D 0 _ _ (0, 0) hd]; rfl
    have x1 : w3.cell? ⟨D, 1, none⟩ = some (.string p.v) := by rw [cell_of_row w3 D 1 _ _ (0, 0) hd]; rfl
    clear hd
    have hbase := HB3.out.size
    go_wp2_with (at_builtin
                 refine appP p rfl _ _ rfl w1.heap.size l.length v2 _ rfl hown rfl (by omega) hbase ?_)
    intro v4 w4 ho hg hb4
    have HO := Lib.hid ho
    have HB4 := Lib.hid (HB3.out.trans hb4)
    clear ho hg hb4 hown x0 x1 hbase
    go_wp2
    go_ret
    exact ⟨_, rfl, by rw [HP.out]; exact own_mono10 (B := w1.heap.size) (e := 33) (by rw [rowPr_app, List.length_append]; exact HO.out) HB0.out.size, HB0.out.trans (HB4.out.mono HB0.out.size)⟩
  | some i =>
    have hat : atI l p.n = (i : Nat) := by unfold atI; rw [hf]
    have hi : i < l.length := by
      rw [List.findIdx?_eq_some_iff_getElem] at hf
      exact hf.1
    obtain ⟨x, hx⟩ : ∃ x, l[i]? = some x := ⟨_, List.getElem?_eq_getElem hi⟩
    have HP := Lib.hid (show putL l p = l.set i ⟨x.n, p.v⟩ by unfold putL; rw [hf]; show l.set i ⟨(l.getD i p).n, p.v⟩ = _; rw [List.getD_eq_getElem?_getD, hx]; rfl)
    have HX := Lib.hid hx
    clear hf
    obtain ⟨g, cap, hv⟩ : ∃ g cap, v2 = .slice (some ⟨g, 0, none⟩) l.length cap := by
      rcases HOWN.out.2 with ⟨_, h0⟩ | ⟨g, cap, cur, hv, _⟩
      · omega
      · exact ⟨g, cap, hv⟩
    subst hv
    go_wp2_with fail
    refine HOP.out.mono ?_
    rintro e w3 ⟨rfl, hb3⟩
    rw [hat]
    have hown := own_below HOWN.out hb3
    have HB3 := Lib.hid (HB2.out.trans (hb3.mono HB2.out.size))
    have hd := (HB3.out.block D (Array.getElem?_eq_some_iff.1 HN.out).1).trans HN.out
    clear x0 HOP hb3 hat
    have x1 : w3.cell? ⟨D, 1, none⟩ = some (.string p.v) := by rw [cell_of_row w3 D 1 _ _ (0, 0) hd]; rfl
    have HO := Lib.hid (own_put (u := .string p.v) hown (j := i * 2 + 1) (by omega))
    have hge : w1.heap.size ≤ g := (hown.lt g rfl).1
    obtain ⟨cur, hcur⟩ : ∃ cur, w3.heap[g]? = some (Obj.cells cur 33 (0, 0)) := by
      rcases hown.2 with ⟨h0, _⟩ | ⟨g', cap', cur, h1, _, h3, _⟩
      · cases h0
      · cases h1; exact ⟨cur, h3⟩
    have f1 := frozen_of_row w3 g (i * 2 + 1) _ _ hcur
    have c1 : w3.cell? ⟨g, i * 2 + 1, none⟩ = some (.string x.v) := by
      have h1 := hown.cells (g := g) rfl _ _ ((rowPr_at l i 1 x hx (by omega)).trans rfl)
      unfold Addr.add at h1
      simpa using h1
    have hiI : (i : Int) < (l.length : Int) := by omega
    have HB4 := Lib.hid (HB3.out.setCell (p := ⟨g, i * 2 + 1, none⟩) hge (.string p.v))
    clear hd hx hown hcur
    go_wp2
    go_ret
    exact ⟨_, rfl, by rw [HP.out]; exact own_mono10 (B := w1.heap.size) (e := 33) (by rw [rowPr_set l i x p.v HX.out, List.length_set]; exact HO.out) HB0.out.size, HB0.out.trans (HB4.out.mono HB0.out.size)⟩
/-- a row of properties with each of more put -/
def over (l m : List Pr) : List Pr := m.foldl putL l
theorem over_snoc (l m : List Pr) (p : Pr) : over l (m ++ [p]) = putL (over l m) p := by simp [over]
theorem over_len : ∀ (m l : List Pr), (over l m).length ≤ l.length + m.length
  | [], l => by simp [over]
  | p :: m, l => by
    have h1 := over_len m (putL l p)
    have h2 := putL_len l p
    simp only [over, List.foldl_cons, List.length_cons] at h1 ⊢
    omega
theorem over_step {l m : List Pr} {k : Nat} {p : Pr} (hp : m[k]? = some p) : over l (m.take (k + 1)) = putL (over l (m.take k)) p := by
  rw [List.take_add_one, hp, Option.toList_some, over_snoc]
end Go.Proofs.Ythfholnnkdoagaa
