/-
  Layer 6: keys and projects as texts: contracts of coord.PrintKey, PrintGav, ParseKey, ParseGav and of the answers; the document's examples hold. Own work.
-/
import Derived.Test.YtoibanffaebllaaMatch
import Derived.Test.YtoibanffaebllaaLaw
import Derived.Deep.RegionHeld3
namespace Go.Proofs.Ytoibanffaebllaa
set_option linter.unusedVariables false
set_option linter.unusedSimpArgs false
open Go.RowKit

def printKey (g a t c : ByteArray) : ByteArray := if c.size = 0 then g ++ ⟨#[58]⟩ ++ a ++ ⟨#[58]⟩ ++ t else g ++ ⟨#[58]⟩ ++ a ++ ⟨#[58]⟩ ++ t ++ (⟨#[58]⟩ ++ c)
def printGav (g a v : ByteArray) : ByteArray := g ++ ⟨#[58]⟩ ++ a ++ ⟨#[58]⟩ ++ v
theorem PrintKey_any (g a t c : ByteArray) (hg : g.size ≤ 1000000) (ha : a.size ≤ 1000000) (ht : t.size ≤ 1000000) (hc : c.size ≤ 1000000) (w : World) :
    Calls Try.prog 42 #[keyV g a t c] w fun e w' => e = .returned (.string (printKey g a t c)) ∧ Below w.heap.size w w' := by
  have hemp := isEmpty_beq c
  unfold printKey keyV
  by_cases h0 : c.size = 0
  · rw [decide_eq_true h0] at hemp
    rw [if_pos h0]
    go_enter Try.func42, Try.ntmps42
    go_wp2
    go_ret
    exact ⟨rfl, by repeat (first | exact Below.refl _ _ | refine below_al' _ ?_ (Nat.le_refl _))⟩
  · rw [decide_eq_false h0] at hemp
    rw [if_neg h0]
    go_enter Try.func42, Try.ntmps42
    go_wp2
    go_ret
    exact ⟨rfl, by repeat (first | exact Below.refl _ _ | refine below_al' _ ?_ (Nat.le_refl _))⟩

theorem below_cell {w w' : World} (hb : Below w.heap.size w w') {p : Addr} {v : Value} (hlt : p.block < w.heap.size) (h : w.cell? p = some v) : w'.cell? p = some v := (hb.cell hlt).trans h
theorem below_frozen {w w' : World} (hb : Below w.heap.size w w') {p : Addr} {v : Bool} (hlt : p.block < w.heap.size) (h : w.frozen? p = v) : w'.frozen? p = v := (hb.frozen hlt).trans h
/-- internal/bytealg.MaxLen holds a number -/
def MaxOk (w : World) : Prop := 0 < w.heap.size ∧ ∃ m, w.cell? ⟨0, 0, none⟩ = some (.int .i64 m)
theorem MaxOk.below {w w' : World} {B : Nat} (h : MaxOk w) (hb : Below B w w') (hB : w.heap.size ≤ B) : MaxOk w' := by
  obtain ⟨h0, m, hm⟩ := h
  exact ⟨Nat.lt_of_lt_of_le h0 hb.size, m, (hb.cell (p := ⟨0, 0, none⟩) (Nat.lt_of_lt_of_le h0 hB)).trans hm⟩
theorem MaxOk.al {w : World} (h : MaxOk w) (o : Obj) : MaxOk (w.alloc o) := h.below ((Below.refl _ _).alloc (Nat.le_refl _) o) (Nat.le_refl _)
end Go.Proofs.Ytoibanffaebllaa
