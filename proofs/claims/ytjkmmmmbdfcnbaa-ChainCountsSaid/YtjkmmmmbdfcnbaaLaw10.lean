/-
  Layer 10: what the laws' walks ask of Merge, the answer's Merge, Light, Same, lives. Own work.
-/
import Derived.Test.YtjkmmmmbdfcnbaaOpen10
import Derived.Test.YtjkmmmmbdfcnbaaLives10
import Derived.Test.YtjkmmmmbdfcnbaaLight10b
import Derived.Test.YtjkmmmmbdfcnbaaSame10c
namespace Go.Proofs.Ytjkmmmmbdfcnbaa
set_option linter.unusedVariables false
set_option linter.unusedSimpArgs false
open Go.RowKit

/-- a project's value, its slices written out -/
def pmS (x : Pm) (a1 : Option Addr) (c1 : Nat) (a2 : Option Addr) (c2 : Nat) (a3 : Option Addr) (c3 : Nat) : Array Value :=
  #[.bool x.hp, .string x.pg, .string x.pa, .string x.pv, .string x.g, .string x.a, .string x.v, .string x.pk, .slice a1 x.ps.length c1, .slice a2 x.ms.length c2, .slice a3 x.ds.length c3]
theorem RdP.shapes {w : World} {v1 v2 v3 : Value} {x : Pm} (h : RdP w v1 v2 v3 x) : ∃ a1 c1 a2 c2 a3 c3, v1 = .slice a1 x.ps.length c1 ∧ v2 = .slice a2 x.ms.length c2 ∧ v3 = .slice a3 x.ds.length c3 := by
  obtain ⟨a1, c1, h1⟩ := RdSl.shape h.p
  obtain ⟨a2, c2, h2⟩ := RdSl.shape h.m
  obtain ⟨a3, c3, h3⟩ := RdSl.shape h.d
  exact ⟨a1, c1, a2, c2, a3, c3, h1, h2, h3⟩
/-- what Merge hands back: x, in rows of its own -/
def MgX (x : Pm) (w : World) (e : Ending) (w' : World) : Prop := ∃ a1 c1 a2 c2 a3 c3,
  e = .returned (.agg #[.bool x.hp, .string x.pg, .string x.pa, .string x.pv, .string x.g, .string x.a, .string x.v, .string x.pk, .slice a1 x.ps.length c1, .slice a2 x.ms.length c2, .slice a3 x.ds.length c3]) ∧
  w'.ownsRow w.heap.size 36 2 (.slice a1 x.ps.length c1) x.ps.length (rowPr x.ps) ∧ DsO w.heap.size w' (.slice a2 x.ms.length c2) x.ms ∧ DsO w.heap.size w' (.slice a3 x.ds.length c3) x.ds ∧ Below w.heap.size w w'
def MgY (x : Pm) (w : World) (e : Ending) (w' : World) : Prop := ∃ a1 c1 a2 c2 a3 c3,
  e = .returned (.agg #[.bool x.hp, .string x.pg, .string x.pa, .string x.pv, .string x.g, .string x.a, .string x.v, .string x.pk, .slice a1 x.ps.length c1, .slice a2 x.ms.length c2, .slice a3 x.ds.length c3]) ∧
  RdP w' (.slice a1 x.ps.length c1) (.slice a2 x.ms.length c2) (.slice a3 x.ds.length c3) x ∧ Below w.heap.size w w'
theorem Merge_x (c p x : Pm) (hx : x = mergeM c p) (va vb vc va2 vb2 vc2 : Value) (w : World) (hc : RdP w va vb vc c) (hp : RdP w va2 vb2 vc2 p) (ho : OkP c) (ho2 : OkP p) :
    Calls Try.prog 8 #[pmV va vb vc c, pmV va2 vb2 vc2 p] w (MgX x w) := by
  subst hx
  refine (Merge_any c p va vb vc va2 vb2 vc2 w hc hp ho ho2).mono ?_
  rintro e w' ⟨a, b, d, rfl, h1, h2, h3, h4⟩
  obtain ⟨a1, c1, e1⟩ := RdSl.shape (RdPs.of_own h1)
  obtain ⟨a2, c2, e2⟩ := h2.shape
  obtain ⟨a3, c3, e3⟩ := h3.shape
  subst e1 e2 e3
  exact ⟨a1, c1, a2, c2, a3, c3, rfl, h1, h2, h3, h4⟩
theorem refMerge_x (c p x : Pm) (hx : x = mergeM c p) (va vb vc va2 vb2 vc2 : Value) (w : World) (hc : RdP w va vb vc c) (hp : RdP w va2 vb2 vc2 p) (ho : OkP c) (ho2 : OkP p) :
    Calls Try.prog 10 #[pmV va vb vc c, pmV va2 vb2 vc2 p] w (MgY x w) := by
  subst hx
  refine (refMerge_any c p va vb vc va2 vb2 vc2 w hc hp (by have := ho.l1; omega) (by have := ho.l2; omega) (by have := ho.l3; omega) (by have := ho2.l1; omega) (by have := ho2.l2; omega) (by have := ho2.l3; omega)).mono ?_
  rintro e w' ⟨a, b, d, rfl, h1, h4⟩
  obtain ⟨a1, c1, a2, c2, a3, c3, rfl, rfl, rfl⟩ := h1.shapes
  exact ⟨a1, c1, a2, c2, a3, c3, rfl, h1, h4⟩
theorem MgX.rd {x : Pm} {w w' : World} {a1 a2 a3 : Option Addr} {c1 c2 c3 : Nat} (h1 : w'.ownsRow w.heap.size 36 2 (.slice a1 x.ps.length c1) x.ps.length (rowPr x.ps)) (h2 : DsO w.heap.size w' (.slice a2 x.ms.length c2) x.ms) (h3 : DsO w.heap.size w' (.slice a3 x.ds.length c3) x.ds) :
    RdP w' (.slice a1 x.ps.length c1) (.slice a2 x.ms.length c2) (.slice a3 x.ds.length c3) x := ⟨RdPs.of_own h1, h2.rd, h3.rd⟩
theorem ld_pom {w : World} {B : Nat} {cs : Array Value} (h : w.heap[B]? = some (.cells cs 27 (0, 0))) (hs : cs.size = 11) : (Instr.loadAt 27 (.pointer (some ⟨B, 0, none⟩))).run Try.prog w = .ok (.agg cs) w := by
  have l1 := run_loadVar_row (P := Try.prog) w B 27 27 cs (0, 0) _ h Try.underlying27 rfl (by rw [hs]; kernel_rfl)
  simp only [Instr.loadAt, Instr.sureAddr, Sem.run_bind, Sem.run_pure, Result.andThen_ok]
  exact l1
theorem yields_load_pom {ops : Array Oper} {S : World → Prop} {op : Oper} {a : Act} (hw : Region.wanted op (yielded ops a.tmps) = true) (x : Operand) (ho : op.op = .load 27 x) (B : Nat) (hx : a.eval x = .pointer (some ⟨B, 0, none⟩)) (cs : Array Value) (hs : cs.size = 11)
    (hS : ∀ w, S w → w.heap[B]? = some (.cells cs 27 (0, 0))) : YieldsIf Try.prog ops S op (.agg cs) a :=
  .inl ⟨hw, fun w hw' => by unfold execOp; simp only [ho, hx, Sem.run_bind, ld_pom (hS w hw') hs, Result.andThen_ok, Sem.run_pure]⟩
/-- two boxes that lie as they lay -/
def Bx2 (C P : Nat) (cs ps : Array Value) (w : World) : Prop := w.heap[C]? = some (.cells cs 27 (0, 0)) ∧ w.heap[P]? = some (.cells ps 27 (0, 0))
theorem Bx2.below {C P : Nat} {cs ps : Array Value} {w w' : World} (h : Bx2 C P cs ps w) (hb : Below w.heap.size w w') : Bx2 C P cs ps w' :=
  ⟨(hb.block C (Array.getElem?_eq_some_iff.1 h.1).1).trans h.1, (hb.block P (Array.getElem?_eq_some_iff.1 h.2).1).trans h.2⟩
/-- what a region that draws holds: a box, two boxes, and what lay at w1 -/
def S3 (w1 : World) (M C P : Nat) (xs cs ps : Array Value) (w : World) : Prop := w.heap[M]? = some (.cells xs 27 (0, 0)) ∧ Bx2 C P cs ps w ∧ Below w1.heap.size w1 w
theorem S3.below {w1 : World} {M C P : Nat} {xs cs ps : Array Value} {w w' : World} (h : S3 w1 M C P xs cs ps w) (hb : Below w.heap.size w w') : S3 w1 M C P xs cs ps w' :=
  ⟨(hb.block M (Array.getElem?_eq_some_iff.1 h.1).1).trans h.1, h.2.1.below hb, h.2.2.trans (hb.mono h.2.2.size)⟩
theorem S3.drew {w1 : World} {M C P : Nat} {xs cs ps : Array Value} {w : World} (h : S3 w1 M C P xs cs ps w) : S3 w1 M C P xs cs ps w.drew := ⟨h.1, h.2.1, h.2.2.drew⟩
def S2 (w1 : World) (C P : Nat) (cs ps : Array Value) (w : World) : Prop := Bx2 C P cs ps w ∧ Below w1.heap.size w1 w
theorem S2.below {w1 : World} {C P : Nat} {cs ps : Array Value} {w w' : World} (h : S2 w1 C P cs ps w) (hb : Below w.heap.size w w') : S2 w1 C P cs ps w' :=
  ⟨h.1.below hb, h.2.trans (hb.mono h.2.size)⟩
theorem S2.drew {w1 : World} {C P : Nat} {cs ps : Array Value} {w : World} (h : S2 w1 C P cs ps w) : S2 w1 C P cs ps w.drew := ⟨h.1, h.2.drew⟩
end Go.Proofs.Ytjkmmmmbdfcnbaa
