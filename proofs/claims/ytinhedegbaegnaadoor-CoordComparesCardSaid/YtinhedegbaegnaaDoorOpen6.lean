/-
  Layer 6: what the parameters of types Id, Gav and Key are: structs of texts. Own work.
-/
import Derived.Test.YtinhedegbaegnaaDoorDoor
import Derived.Test.YtinhedegbaegnaaDoorPrint6
import Derived.Lib.SmallJoins
namespace Go.Proofs.YtinhedegbaegnaaDoor
set_option linter.unusedVariables false
set_option linter.unusedSimpArgs false
open Go.ChangeShapes Go.WideShapes Go.ChangeAt Go.RowKit
section
variable {H : Type} {enc : TypeId × Value → H} {W : World} {b0 base : Nat} {sp : Nat → Bool} {v : Value} {d : DataW H} {p : List MemPlace}
theorem maxOk_of {W : World} (h : ∃ m, W.cell? ⟨0, 0, none⟩ = some (.int .i64 m)) : MaxOk W := by
  obtain ⟨m, hm⟩ := h
  exact ⟨World.block_lt_of_cell? W _ hm, m, hm⟩
theorem one_text {n : Nat} {c : Value} {y : DataW H × List MemPlace} (h : DataW.trod enc Tryd.prog W base sp true n 9 [c] = some y) : ∃ s : ByteArray, c = .string s ∧ s.size ≤ 9223372036854775807 := by
  obtain ⟨s, hc, _, hs⟩ := DataW.trod_string Tryd.underlying9 h
  unfold maxLen at hs
  simp only [List.cons.injEq, and_true] at hc
  exact ⟨s, hc, hs⟩
theorem open_id (hv : Value.okWide Tryd.prog W .any b0 27 v) (h : DataW.Trod enc Tryd.prog W base sp true 27 v d p) :
    ∃ g a : ByteArray, v = idV g a ∧ g.size ≤ 9223372036854775807 ∧ a.size ≤ 9223372036854775807 := by
  obtain ⟨v0, v1, y0, y1, n, rfl, _, _, h0, h1⟩ := Go.Joins.open_agg2 Tryd.underlying27 (by kernel_rfl) (by kernel_rfl) hv h
  obtain ⟨g, rfl, z0⟩ := one_text h0
  obtain ⟨a, rfl, z1⟩ := one_text h1
  exact ⟨g, a, rfl, z0, z1⟩
theorem open_gav (hv : Value.okWide Tryd.prog W .any b0 23 v) (h : DataW.Trod enc Tryd.prog W base sp true 23 v d p) :
    ∃ g a u : ByteArray, v = gavV g a u ∧ g.size ≤ 9223372036854775807 ∧ a.size ≤ 9223372036854775807 ∧ u.size ≤ 9223372036854775807 := by
  obtain ⟨v0, v1, v2, y0, y1, y2, n, rfl, _, _, h0, h1, h2⟩ := Go.Joins.open_agg3 Tryd.underlying23 (by kernel_rfl) (by kernel_rfl) hv h
  obtain ⟨g, rfl, z0⟩ := one_text h0
  obtain ⟨a, rfl, z1⟩ := one_text h1
  obtain ⟨u, rfl, z2⟩ := one_text h2
  exact ⟨g, a, u, rfl, z0, z1, z2⟩
theorem open_key (hv : Value.okWide Tryd.prog W .any b0 25 v) (h : DataW.Trod enc Tryd.prog W base sp true 25 v d p) :
    ∃ g a t c : ByteArray, v = keyV g a t c ∧ g.size ≤ 9223372036854775807 ∧ a.size ≤ 9223372036854775807 ∧ t.size ≤ 9223372036854775807 ∧ c.size ≤ 9223372036854775807 := by
  obtain ⟨v0, v1, v2, v3, y0, y1, y2, y3, n, rfl, _, _, h0, h1, h2, h3⟩ := Go.Joins.open_agg4 Tryd.underlying25 (by kernel_rfl) (by kernel_rfl) hv h
  obtain ⟨g, rfl, z0⟩ := one_text h0
  obtain ⟨a, rfl, z1⟩ := one_text h1
  obtain ⟨t, rfl, z2⟩ := one_text h2
  obtain ⟨c, rfl, z3⟩ := one_text h3
  exact ⟨g, a, t, c, rfl, z0, z1, z2, z3⟩
end
end Go.Proofs.YtinhedegbaegnaaDoor
