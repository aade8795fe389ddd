/-
  Layer 17: deals, as lists, and as they lie in memory. Own work.
-/
import Derived.Test.YtgfgajekegfdgaaCount
import Derived.Deep.Slices
import Derived.Lib.LaidTab
import Derived.Deep.RegionHeld3
import Derived.WalkLawsBesides
import Derived.Deep.Cut
import Derived.Deep.CutRange
import Derived.Deep.QuietTactic
import Derived.BigQuiet
import Derived.IntWalk
import Derived.WalkSpells
import Derived.Outline
namespace Go.Proofs.Ytgfgajekegfdgaa
set_option linter.unusedVariables false
set_option linter.unusedSimpArgs false
open Go.RowKit

structure Ky where
  g : ByteArray
  a : ByteArray
  t : ByteArray
  c : ByteArray
structure It where
  k : Ky
  v : ByteArray
structure Dl where
  its : List It
  ws : List (List (List Int))
  root : Int
def itCells (x : It) : List Value := [.string x.k.g, .string x.k.a, .string x.k.t, .string x.k.c, .string x.v]
def Ky.val (k : Ky) : Value := .agg #[.string k.g, .string k.a, .string k.t, .string k.c]
def okIt (x : It) : Prop := x.k.g.size ≤ 9223372036854775807 ∧ x.k.a.size ≤ 9223372036854775807 ∧ x.k.t.size ≤ 9223372036854775807 ∧ x.k.c.size ≤ 9223372036854775807 ∧ x.v.size ≤ 9223372036854775807

/-- v is a slice whose elements, one cell each, are R of these -/
def RdOf {α : Type} (w : World) (R : Value → α → Prop) (v : Value) (l : List α) : Prop :=
  (v = .slice none 0 0 ∧ l = []) ∨ ∃ a cap, v = .slice (some a) l.length cap ∧ l.length ≤ cap ∧ cap ≤ 9223372036854775807 ∧ ∀ (j : Nat) x, l[j]? = some x → ∃ r, w.cell? (a.add j) = some r ∧ R r x
def Rd2 (w : World) (v : Value) (l : List (List Int)) : Prop := RdOf w (Reads w iV) v l
def Rd3 (w : World) (v : Value) (l : List (List (List Int))) : Prop := RdOf w (Rd2 w) v l
/-- the slice v reads as these items -/
def RdI (w : World) (v : Value) (l : List It) : Prop :=
  (v = .slice none 0 0 ∧ l = []) ∨ ∃ a cap, v = .slice (some a) l.length cap ∧ l.length ≤ cap ∧ cap ≤ 9223372036854775807 ∧
    ∀ (i : Nat) x, l[i]? = some x → ∀ (c : Nat) u, (itCells x)[c]? = some u → w.cell? (a.add (i * 5 + c)) = some u
section
variable {α : Type} {w w' : World} {R R' : Value → α → Prop} {v : Value} {l : List α} {B : Nat} {a : Option Addr} {n c i : Nat} {x : α} {f : α → Value}
theorem RdOf.below (h : RdOf w R v l) (hb : Below B w w') (hB : w.heap.size ≤ B) (hR : ∀ v x, R v x → R' v x) : RdOf w' R' v l := by
  rcases h with h | ⟨a, cap, h1, h2, h3, h5⟩
  · exact .inl h
  · refine .inr ⟨a, cap, h1, h2, h3, fun j x hx => ?_⟩
    obtain ⟨r, k1, k2⟩ := h5 j x hx
    exact ⟨r, (hb.cell (Nat.lt_of_lt_of_le (World.block_lt_of_cell? w _ k1) hB)).trans k1, hR r x k2⟩
theorem RdOf.shape (h : RdOf w R v l) : ∃ a c, v = .slice a l.length c := by
  rcases h with ⟨rfl, rfl⟩ | ⟨a, cap, rfl, _⟩
  · exact ⟨none, 0, rfl⟩
  · exact ⟨some a, cap, rfl⟩
theorem RdOf.len (h : RdOf w R v l) : l.length ≤ 9223372036854775807 := by
  rcases h with ⟨_, rfl⟩ | ⟨a, cap, _, h1, h2, _⟩
  · simp
  · omega
theorem RdOf.elem (h : RdOf w R (.slice a n c) l) (hx : l[i]? = some x) : ∃ b r, a = some b ∧ w.cell? (b.add i) = some r ∧ R r x := by
  rcases h with ⟨_, rfl⟩ | ⟨b, cap, h, _, _, h5⟩
  · simp at hx
  · cases h
    obtain ⟨r, k1, k2⟩ := h5 i x hx
    exact ⟨b, r, rfl, k1, k2⟩
theorem Reads.shape (h : Reads w f v l) : ∃ a c, v = .slice a l.length c := by
  rcases h with ⟨rfl, rfl⟩ | ⟨a, cap, rfl, _⟩
  · exact ⟨none, 0, rfl⟩
  · exact ⟨some a, cap, rfl⟩
theorem Reads.len (h : Reads w f v l) : l.length ≤ 9223372036854775807 := by
  rcases h with ⟨_, rfl⟩ | ⟨a, cap, _, h1, h2, _⟩
  · simp
  · omega
theorem Reads.elem (h : Reads w f (.slice a n c) l) (hx : l[i]? = some x) : ∃ b, a = some b ∧ w.cell? (b.add i) = some (f x) := by
  rcases h with ⟨_, rfl⟩ | ⟨b, cap, h, _, _, h5⟩
  · simp at hx
  · cases h
    exact ⟨b, rfl, h5 i x hx⟩
end
theorem Rd2.below {w w' : World} {v : Value} {l : List (List Int)} {B : Nat} (h : Rd2 w v l) (hb : Below B w w') (hB : w.heap.size ≤ B) : Rd2 w' v l := RdOf.below h hb hB fun _ _ h => h.below hb hB
theorem Rd3.below {w w' : World} {v : Value} {l : List (List (List Int))} {B : Nat} (h : Rd3 w v l) (hb : Below B w w') (hB : w.heap.size ≤ B) : Rd3 w' v l := RdOf.below h hb hB fun _ _ h => h.below hb hB
theorem RdI.below {w w' : World} {v : Value} {l : List It} {B : Nat} (h : RdI w v l) (hb : Below B w w') (hB : w.heap.size ≤ B) : RdI w' v l := by
  rcases h with h | ⟨a, cap, h1, h2, h3, h5⟩
  · exact .inl h
  · exact .inr ⟨a, cap, h1, h2, h3, fun i p hp c u hu => (hb.cell (Nat.lt_of_lt_of_le (World.block_lt_of_cell? w _ (h5 i p hp c u hu)) hB)).trans (h5 i p hp c u hu)⟩
theorem RdI.shape {w : World} {v : Value} {l : List It} (h : RdI w v l) : ∃ a c, v = .slice a l.length c := by
  rcases h with ⟨rfl, rfl⟩ | ⟨a, cap, rfl, _⟩
  · exact ⟨none, 0, rfl⟩
  · exact ⟨some a, cap, rfl⟩
theorem RdI.len {w : World} {v : Value} {l : List It} (h : RdI w v l) : l.length ≤ 9223372036854775807 := by
  rcases h with ⟨_, rfl⟩ | ⟨a, cap, _, h1, h2, _⟩
  · simp
  · omega
/-- an item's cells, in the forms in which a load asks for them -/
def ItAt (w : World) (a : Addr) (x : It) : Prop :=
  w.cell? a = some (.string x.k.g) ∧ w.cell? ⟨a.block, a.off + 1, none⟩ = some (.string x.k.a) ∧ w.cell? ⟨a.block, a.off + 2, none⟩ = some (.string x.k.t) ∧ w.cell? ⟨a.block, a.off + 3, none⟩ = some (.string x.k.c) ∧ w.cell? ⟨a.block, a.off + 4, none⟩ = some (.string x.v)
theorem RdI.elem {w : World} {a : Option Addr} {n c i : Nat} {l : List It} {x : It} (h : RdI w (.slice a n c) l) (hx : l[i]? = some x) : ∃ b, a = some b ∧ ItAt w (b.add (i * 5)) x := by
  rcases h with ⟨_, rfl⟩ | ⟨b, cap, h, _, _, h5⟩
  · simp at hx
  · cases h
    have hc := h5 i x hx
    refine ⟨b, rfl, hc 0 _ rfl, ?_, ?_, ?_, ?_⟩
    · have h1 := hc 1 _ rfl
      rw [← Go.Deep.add_add] at h1
      exact h1
    · have h2 := hc 2 _ rfl
      rw [← Go.Deep.add_add] at h2
      exact h2
    · have h3 := hc 3 _ rfl
      rw [← Go.Deep.add_add] at h3
      exact h3
    · have h4 := hc 4 _ rfl
      rw [← Go.Deep.add_add] at h4
      exact h4
/-- block B is a variable that holds a deal -/
def DlIn (w : World) (B : Nat) (vi vw : Value) (r : Int) : Prop := w.cell? ⟨B, 0, none⟩ = some vi ∧ w.cell? ⟨B, 1, none⟩ = some vw ∧ w.cell? ⟨B, 2, none⟩ = some (.int .i64 r)
theorem DlIn.new (w : World) (vi vw : Value) (r : Int) : DlIn (w.alloc (.cells #[vi, vw, .int .i64 r] 25)) w.heap.size vi vw r := by
  have h := heap_alloc_new w (.cells #[vi, vw, .int .i64 r] 25)
  exact ⟨by rw [cell_of_row _ _ 0 _ _ (0, 0) h]; rfl, by rw [cell_of_row _ _ 1 _ _ (0, 0) h]; rfl, by rw [cell_of_row _ _ 2 _ _ (0, 0) h]; rfl⟩
theorem DlIn.below {w w' : World} {D : Nat} {vi vw : Value} {r : Int} {B : Nat} (h : DlIn w D vi vw r) (hb : Below B w w') (hB : w.heap.size ≤ B) : DlIn w' D vi vw r := by
  have hD : D < B := Nat.lt_of_lt_of_le (World.block_lt_of_cell? w ⟨D, 0, none⟩ h.1) hB
  exact ⟨(hb.cell (p := ⟨D, 0, none⟩) hD).trans h.1, (hb.cell (p := ⟨D, 1, none⟩) hD).trans h.2.1, (hb.cell (p := ⟨D, 2, none⟩) hD).trans h.2.2⟩
/-- the deal d is what lies there -/
structure RdD (w : World) (vi vw : Value) (d : Dl) : Prop where
  i : RdI w vi d.its
  w : Rd3 w vw d.ws
theorem RdD.below {w w' : World} {vi vw : Value} {d : Dl} {B : Nat} (h : RdD w vi vw d) (hb : Below B w w') (hB : w.heap.size ≤ B) : RdD w' vi vw d := ⟨h.i.below hb hB, h.w.below hb hB⟩
theorem RdD.shape {w : World} {vi vw : Value} {d : Dl} (h : RdD w vi vw d) : ∃ a c b e, vi = .slice a d.its.length c ∧ vw = .slice b d.ws.length e := by
  obtain ⟨a, c, h1⟩ := h.i.shape
  obtain ⟨b, e, h2⟩ := RdOf.shape h.w
  exact ⟨a, c, b, e, h1, h2⟩
def dealV (vi vw : Value) (r : Int) : Value := .agg #[vi, vw, .int .i64 r]

/-! which deals may be -/
/-- is k one of n? -/
def inB (n : Nat) (k : Int) : Bool := decide (0 ≤ k) && decide (k < n)
theorem inB_yes {n : Nat} {k : Int} (h0 : 0 ≤ k) (h1 : k < n) : inB n k = true := by unfold inB; simp [h0, h1]
theorem inB_low {n : Nat} {k : Int} (h0 : k < 0) : inB n k = false := by unfold inB; simp; omega
theorem inB_high {n : Nat} {k : Int} (h0 : (n : Int) ≤ k) : inB n k = false := by unfold inB; simp; omega
theorem inB_iff {n : Nat} {k : Int} : inB n k = true ↔ 0 ≤ k ∧ k < n := by unfold inB; simp
def allW (n : Nat) (w : List Int) : Bool := w.all (inB n)
def allWs (n : Nat) (l : List (List Int)) : Bool := l.all (allW n)
def allWss (n : Nat) (l : List (List (List Int))) : Bool := l.all (allWs n)
theorem all_snoc {α : Type} {l : List α} {k : Nat} {x : α} (h : l[k]? = some x) (f : α → Bool) : (l.take (k + 1)).all f = ((l.take k).all f && f x) := by
  rw [List.take_add_one, h]; simp [List.all_append]
theorem all_not {α : Type} {l : List α} {k : Nat} {x : α} (h : l[k]? = some x) {f : α → Bool} (hf : f x = false) : l.all f = false := by
  rw [Bool.eq_false_iff]
  intro ha
  rw [List.all_eq_true.1 ha x (List.mem_of_getElem? h)] at hf; cases hf
def mayD (d : Dl) : Int := if 1024 < d.its.length then 2 else if inB d.its.length d.root = true ∧ d.ws.length = d.its.length ∧ allWss d.its.length d.ws = true then 0 else 1
theorem mayD_big {d : Dl} (h : 1024 < d.its.length) : mayD d = 2 := by unfold mayD; rw [if_pos h]
theorem mayD_root {d : Dl} (h : ¬ 1024 < d.its.length) (h1 : inB d.its.length d.root = false) : mayD d = 1 := by unfold mayD; rw [if_neg h, if_neg (by rw [h1]; simp)]
theorem mayD_len {d : Dl} (h : ¬ 1024 < d.its.length) (h1 : d.ws.length ≠ d.its.length) : mayD d = 1 := by unfold mayD; rw [if_neg h, if_neg (fun e => h1 e.2.1)]
theorem mayD_all {d : Dl} (h : ¬ 1024 < d.its.length) (h1 : allWss d.its.length d.ws = false) : mayD d = 1 := by unfold mayD; rw [if_neg h, if_neg (by rw [h1]; simp)]
theorem mayD_ok {d : Dl} (h : ¬ 1024 < d.its.length) (h1 : inB d.its.length d.root = true) (h2 : d.ws.length = d.its.length) (h3 : allWss d.its.length d.ws = true) : mayD d = 0 := by unfold mayD; rw [if_neg h, if_pos ⟨h1, h2, h3⟩]
theorem mayD_zero {d : Dl} (h : mayD d = 0) : d.its.length ≤ 1024 ∧ (0 ≤ d.root ∧ d.root < d.its.length) ∧ d.ws.length = d.its.length ∧ allWss d.its.length d.ws = true := by
  unfold mayD at h
  split at h
  · omega
  · split at h
    · rename_i h0 h1
      exact ⟨by omega, inB_iff.1 h1.1, h1.2⟩
    · omega
theorem mayD_cases (d : Dl) : mayD d = 0 ∨ mayD d = 1 ∨ mayD d = 2 := by 
  unfold mayD
  split
  · simp
  · split <;> simp
end Go.Proofs.Ytgfgajekegfdgaa
