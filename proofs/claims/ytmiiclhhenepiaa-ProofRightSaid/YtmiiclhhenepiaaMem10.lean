/-
  Layer 10: projects, dependencies and properties in memory. Own work.
-/
import Derived.Test.YtmiiclhhenepiaaBase
import Derived.Test.YtmiiclhhenepiaaLaw
import Derived.Laws.OwnMore
import Derived.OwnWalk
import Derived.OneCell
import Derived.Deep.Slices
import Derived.Deep.Grids
import Derived.Lib.LaidTab
import Derived.Deep.RegionHeld3
import Derived.WalkLawsBesides
import Derived.Deep.Cut
import Derived.Deep.CutRange
import Derived.Deep.QuietTactic
import Derived.BigQuiet
import Derived.IntWalk
import Derived.WalkSpells
import Derived.Outline
import Derived.Laws.StructEq
namespace Go.Proofs.Ytmiiclhhenepiaa
set_option linter.unusedVariables false
set_option linter.unusedSimpArgs false
open Go.RowKit

theorem bytes_eq10 {x y : ByteArray} (h : x.toList = y.toList) : x = y := by
  apply ByteArray.ext
  rw [ByteArray.toList_eq, ByteArray.toList_eq] at h
  exact Array.ext' h
structure Pr where
  n : ByteArray
  v : ByteArray
structure Ix where
  g : ByteArray
  a : ByteArray
structure Dp where
  g : ByteArray
  a : ByteArray
  v : ByteArray
  t : ByteArray
  c : ByteArray
  sc : Int
  op : Int
  ex : List Ix
structure Pm where
  hp : Bool
  pg : ByteArray
  pa : ByteArray
  pv : ByteArray
  g : ByteArray
  a : ByteArray
  v : ByteArray
  pk : ByteArray
  ps : List Pr
  ms : List Dp
  ds : List Dp
/-- the slice v's elements, of sz cells each, are R of these -/
def RdSl {α : Type} (sz : Nat) (R : Addr → α → Prop) (v : Value) (l : List α) : Prop :=
  (v = .slice none 0 0 ∧ l = []) ∨ ∃ a cap, v = .slice (some a) l.length cap ∧ l.length ≤ cap ∧ cap ≤ 9223372036854775807 ∧ ∀ (i : Nat) x, l[i]? = some x → R (a.add (i * sz)) x
section
variable {α : Type} {sz : Nat} {R R' : Addr → α → Prop} {v : Value} {l : List α} {a : Option Addr} {n c i : Nat} {x : α}
theorem RdSl.mono (h : RdSl sz R v l) (hR : ∀ a x, R a x → R' a x) : RdSl sz R' v l := by
  rcases h with h | ⟨a, cap, h1, h2, h3, h5⟩
  · exact .inl h
  · exact .inr ⟨a, cap, h1, h2, h3, fun i x hx => hR _ _ (h5 i x hx)⟩
theorem RdSl.shape (h : RdSl sz R v l) : ∃ a c, v = .slice a l.length c := by
  rcases h with ⟨rfl, rfl⟩ | ⟨a, cap, rfl, _⟩
  · exact ⟨none, 0, rfl⟩
  · exact ⟨some a, cap, rfl⟩
theorem RdSl.len (h : RdSl sz R v l) : l.length ≤ 9223372036854775807 := by
  rcases h with ⟨_, rfl⟩ | ⟨a, cap, _, h1, h2, _⟩
  · simp
  · omega
theorem RdSl.elem (h : RdSl sz R (.slice a n c) l) (hx : l[i]? = some x) : ∃ b, a = some b ∧ R (b.add (i * sz)) x := by
  rcases h with ⟨_, rfl⟩ | ⟨b, cap, h, _, _, h5⟩
  · simp at hx
  · cases h; exact ⟨b, rfl, h5 i x hx⟩
end
def PrAt (w : World) (a : Addr) (p : Pr) : Prop := w.cell? a = some (.string p.n) ∧ w.cell? ⟨a.block, a.off + 1, none⟩ = some (.string p.v)
def IxAt (w : World) (a : Addr) (p : Ix) : Prop := w.cell? a = some (.string p.g) ∧ w.cell? ⟨a.block, a.off + 1, none⟩ = some (.string p.a)
/-- the values of a dependency's cells, ex the last one's -/
def dpL (d : Dp) (ex : Value) : List Value := [.string d.g, .string d.a, .string d.v, .string d.t, .string d.c, .int .i64 d.sc, .int .i64 d.op, ex]
def DpAt (w : World) (a : Addr) (d : Dp) : Prop :=
  ∃ ex, (w.cell? a = some (.string d.g) ∧ w.cell? ⟨a.block, a.off + 1, none⟩ = some (.string d.a) ∧ w.cell? ⟨a.block, a.off + 2, none⟩ = some (.string d.v) ∧ w.cell? ⟨a.block, a.off + 3, none⟩ = some (.string d.t) ∧
    w.cell? ⟨a.block, a.off + 4, none⟩ = some (.string d.c) ∧ w.cell? ⟨a.block, a.off + 5, none⟩ = some (.int .i64 d.sc) ∧ w.cell? ⟨a.block, a.off + 6, none⟩ = some (.int .i64 d.op) ∧ w.cell? ⟨a.block, a.off + 7, none⟩ = some ex) ∧ RdSl 2 (IxAt w) ex d.ex
theorem PrAt.below {w w' : World} {a : Addr} {p : Pr} {B : Nat} (h : PrAt w a p) (hb : Below B w w') (hB : w.heap.size ≤ B) : PrAt w' a p := by
  have hc : ∀ {A : Addr} {x : Value}, w.cell? A = some x → w'.cell? A = some x := fun hx => (hb.cell (Nat.lt_of_lt_of_le (World.block_lt_of_cell? w _ hx) hB)).trans hx
  exact ⟨hc h.1, hc h.2⟩
theorem IxAt.below {w w' : World} {a : Addr} {p : Ix} {B : Nat} (h : IxAt w a p) (hb : Below B w w') (hB : w.heap.size ≤ B) : IxAt w' a p := by
  have hc : ∀ {A : Addr} {x : Value}, w.cell? A = some x → w'.cell? A = some x := fun hx => (hb.cell (Nat.lt_of_lt_of_le (World.block_lt_of_cell? w _ hx) hB)).trans hx
  exact ⟨hc h.1, hc h.2⟩
theorem DpAt.below {w w' : World} {a : Addr} {d : Dp} {B : Nat} (h : DpAt w a d) (hb : Below B w w') (hB : w.heap.size ≤ B) : DpAt w' a d := by
  obtain ⟨ex, ⟨h0, h1, h2, h3, h4, h5, h6, h7⟩, hr⟩ := h
  have hc : ∀ {A : Addr} {x : Value}, w.cell? A = some x → w'.cell? A = some x := fun hx => (hb.cell (Nat.lt_of_lt_of_le (World.block_lt_of_cell? w _ hx) hB)).trans hx
  exact ⟨ex, ⟨hc h0, hc h1, hc h2, hc h3, hc h4, hc h5, hc h6, hc h7⟩, hr.mono fun _ _ h => h.below hb hB⟩
def RdPs (w : World) (v : Value) (l : List Pr) : Prop := RdSl 2 (PrAt w) v l
def RdXs (w : World) (v : Value) (l : List Ix) : Prop := RdSl 2 (IxAt w) v l
def RdDs (w : World) (v : Value) (l : List Dp) : Prop := RdSl 8 (DpAt w) v l
theorem RdPs.below {w w' : World} {v : Value} {l : List Pr} {B : Nat} (h : RdPs w v l) (hb : Below B w w') (hB : w.heap.size ≤ B) : RdPs w' v l := RdSl.mono h fun _ _ h => h.below hb hB
theorem RdXs.below {w w' : World} {v : Value} {l : List Ix} {B : Nat} (h : RdXs w v l) (hb : Below B w w') (hB : w.heap.size ≤ B) : RdXs w' v l := RdSl.mono h fun _ _ h => h.below hb hB
theorem RdDs.below {w w' : World} {v : Value} {l : List Dp} {B : Nat} (h : RdDs w v l) (hb : Below B w w') (hB : w.heap.size ≤ B) : RdDs w' v l := RdSl.mono h fun _ _ h => h.below hb hB
/-- the three rows of a project in memory -/
structure RdP (w : World) (vp vm vd : Value) (x : Pm) : Prop where
  p : RdPs w vp x.ps
  m : RdDs w vm x.ms
  d : RdDs w vd x.ds
theorem RdP.below {w w' : World} {vp vm vd : Value} {p : Pm} {B : Nat} (h : RdP w vp vm vd p) (hb : Below B w w') (hB : w.heap.size ≤ B) : RdP w' vp vm vd p := ⟨h.p.below hb hB, h.m.below hb hB, h.d.below hb hB⟩
def dpV (d : Dp) (ex : Value) : Value := .agg #[.string d.g, .string d.a, .string d.v, .string d.t, .string d.c, .int .i64 d.sc, .int .i64 d.op, ex]
def pmV (vp vm vd : Value) (p : Pm) : Value := .agg #[.bool p.hp, .string p.pg, .string p.pa, .string p.pv, .string p.g, .string p.a, .string p.v, .string p.pk, vp, vm, vd]
/-! sameness -/
def eqS (x y : ByteArray) : Bool := x.toList == y.toList
theorem eqS_iff {x y : ByteArray} : eqS x y = true ↔ x = y := by
  unfold eqS
  rw [beq_iff_eq]
  exact ⟨bytes_eq10, fun h => by rw [h]⟩
theorem eqS_self (x : ByteArray) : eqS x x = true := eqS_iff.2 rfl
def sameIx (x y : Ix) : Bool := eqS x.g y.g && eqS x.a y.a
def samePr (x y : Pr) : Bool := eqS x.n y.n && eqS x.v y.v
def sameL {α : Type} (f : α → α → Bool) : List α → List α → Bool
  | [], [] => true
  | x :: l, y :: m => f x y && sameL f l m
  | _, _ => false
theorem sameL_len {α : Type} {f : α → α → Bool} : ∀ {l m : List α}, l.length ≠ m.length → sameL f l m = false
  | [], [], h => absurd rfl h
  | [], _ :: _, _ => rfl
  | _ :: _, [], _ => rfl
  | x :: l, y :: m, h => by
    simp only [sameL]
    rw [sameL_len (by simpa using h), Bool.and_false]
theorem sameL_no {α : Type} {f : α → α → Bool} : ∀ {l m : List α} {i : Nat} {x y : α}, l[i]? = some x → m[i]? = some y → f x y = false → sameL f l m = false
  | x :: l, y :: m, 0, _, _, hx, hy, h => by
    simp at hx hy; subst hx; subst hy
    simp only [sameL]; rw [h, Bool.false_and]
  | _ :: l, _ :: m, i + 1, x, y, hx, hy, h => by
    simp only [sameL]
    rw [sameL_no (l := l) (m := m) (i := i) (by simpa using hx) (by simpa using hy) h, Bool.and_false]
theorem sameL_yes {α : Type} {f : α → α → Bool} : ∀ {l m : List α}, l.length = m.length → (∀ (i : Nat) x y, l[i]? = some x → m[i]? = some y → f x y = true) → sameL f l m = true
  | [], [], _, _ => rfl
  | x :: l, y :: m, hl, h => by
    simp only [sameL]
    rw [h 0 x y rfl rfl, sameL_yes (by simpa using hl) (fun i a b ha hb => h (i + 1) a b (by simpa using ha) (by simpa using hb)), Bool.and_true]
theorem sameL_self {α : Type} {f : α → α → Bool} (hf : ∀ x, f x x = true) (l : List α) : sameL f l l = true := sameL_yes rfl fun i x y hx hy => by rw [hx] at hy; cases hy; exact hf x
def sameDp (x y : Dp) : Bool := eqS x.g y.g && (eqS x.a y.a && (eqS x.v y.v && (eqS x.t y.t && (eqS x.c y.c && (x.sc == y.sc && (x.op == y.op && sameL sameIx x.ex y.ex))))))
def samePm (x y : Pm) : Bool := x.hp == y.hp && (eqS x.pg y.pg && eqS x.pa y.pa && eqS x.pv y.pv) && eqS x.g y.g && eqS x.a y.a && eqS x.v y.v && eqS x.pk y.pk && sameL samePr x.ps y.ps && sameL sameDp x.ms y.ms && sameL sameDp x.ds y.ds
theorem sameIx_self (x : Ix) : sameIx x x = true := by unfold sameIx; rw [eqS_self, eqS_self]; rfl
theorem samePr_self (x : Pr) : samePr x x = true := by unfold samePr; rw [eqS_self, eqS_self]; rfl
theorem sameDp_self (x : Dp) : sameDp x x = true := by unfold sameDp; simp [eqS_self, sameL_self sameIx_self]
theorem samePm_self (x : Pm) : samePm x x = true := by unfold samePm; simp [eqS_self, sameL_self samePr_self, sameL_self sameDp_self]
end Go.Proofs.Ytmiiclhhenepiaa
