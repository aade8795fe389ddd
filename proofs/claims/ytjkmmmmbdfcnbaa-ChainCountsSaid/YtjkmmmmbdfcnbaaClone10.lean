/-
  Layer 10: the three Clones. Own work.
-/
import Derived.Test.YtjkmmmmbdfcnbaaRowP10
import Derived.Lib.BufferMore
namespace Go.Proofs.Ytjkmmmmbdfcnbaa
set_option linter.unusedVariables false
set_option linter.unusedSimpArgs false
open Go.RowKit

theorem id_info : (Try.prog.info? 57).map (fun i => (i.zero, i.size, i.bytes)) = some (some (.agg #[.string .empty, .string .empty]), 2, 32) := by kernel_rfl
theorem dep_info : (Try.prog.info? 34).map (fun i => (i.zero, i.size, i.bytes)) = some (some (.agg #[.string .empty, .string .empty, .string .empty, .string .empty, .string .empty, .int .i64 0, .int .i64 0, .slice none 0 0]), 8, 120) := by kernel_rfl
def CloP (w : World) (e sz n : Nat) (xs : List Value) (en : Ending) (w' : World) : Prop := ∃ v, en = .returned v ∧ w'.ownsRow w.heap.size e sz v n xs ∧ Below w.heap.size w w'
theorem CloneP_any (v : Value) (n : Nat) (xs : List Value) (w : World) (h : Raw w 2 v n xs) (hn : n ≤ 100000) :
    Calls Try.prog 29 #[v] w (CloP w 36 2 n xs) := by
  have HH := Lib.hid h
  rcases h.2 with ⟨rfl, rfl⟩ | ⟨a, cap, rfl, h2, h3, _⟩
  · have hx : xs = [] := List.eq_nil_of_length_eq_zero (by have := h.1; omega)
    subst hx
    clear h
    have hnil := fun w => Lib.run_eql_slice_nil_nil (P := Try.prog) w 0 0 Try.underlying24
    go_enter Try.func29, Try.ntmps29
    go_wp2
    go_ret
    exact ⟨_, rfl, World.ownsRow_nil _ _ _ _, Below.refl _ _⟩
  · clear h
    have hnil := fun w => Lib.run_eql_slice_some_nil (P := Try.prog) w a n cap Try.underlying24
    go_enter Try.func29, Try.ntmps29
    go_wp2_with (at_builtin
                 refine wpList_copy rfl _ _ rfl Try.underlying24 prop_info rfl (by decide) w (.slice (some a) n cap) n xs rfl rfl HH.out (by omega) (by omega) ?_)
    intro v2 w2 hown hb2
    have HO := Lib.hid hown
    have HB := Lib.hid hb2
    clear hown hb2
    go_wp2
    go_ret
    exact ⟨_, rfl, HO.out, HB.out⟩
theorem CloneI_any (v : Value) (n : Nat) (xs : List Value) (w : World) (h : Raw w 2 v n xs) (hn : n ≤ 100000) :
    Calls Try.prog 28 #[v] w (CloP w 57 2 n xs) := by
  have HH := Lib.hid h
  rcases h.2 with ⟨rfl, rfl⟩ | ⟨a, cap, rfl, h2, h3, _⟩
  · have hx : xs = [] := List.eq_nil_of_length_eq_zero (by have := h.1; omega)
    subst hx
    clear h
    have hnil := fun w => Lib.run_eql_slice_nil_nil (P := Try.prog) w 0 0 Try.underlying32
    go_enter Try.func28, Try.ntmps28
    go_wp2
    go_ret
    exact ⟨_, rfl, World.ownsRow_nil _ _ _ _, Below.refl _ _⟩
  · clear h
    have hnil := fun w => Lib.run_eql_slice_some_nil (P := Try.prog) w a n cap Try.underlying32
    go_enter Try.func28, Try.ntmps28
    go_wp2_with (at_builtin
                 refine wpList_copy rfl _ _ rfl Try.underlying32 id_info rfl (by decide) w (.slice (some a) n cap) n xs rfl rfl HH.out (by omega) (by omega) ?_)
    intro v2 w2 hown hb2
    have HO := Lib.hid hown
    have HB := Lib.hid hb2
    clear hown hb2
    go_wp2
    go_ret
    exact ⟨_, rfl, HO.out, HB.out⟩
theorem CloneD_any (v : Value) (n : Nat) (xs : List Value) (w : World) (h : Raw w 8 v n xs) (hn : n ≤ 100000) :
    Calls Try.prog 33 #[v] w (CloP w 34 8 n xs) := by
  have HH := Lib.hid h
  rcases h.2 with ⟨rfl, rfl⟩ | ⟨a, cap, rfl, h2, h3, _⟩
  · have hx : xs = [] := List.eq_nil_of_length_eq_zero (by have := h.1; omega)
    subst hx
    clear h
    have hnil := fun w => Lib.run_eql_slice_nil_nil (P := Try.prog) w 0 0 Try.underlying25
    go_enter Try.func33, Try.ntmps33
    go_wp2
    go_ret
    exact ⟨_, rfl, World.ownsRow_nil _ _ _ _, Below.refl _ _⟩
  · clear h
    have hnil := fun w => Lib.run_eql_slice_some_nil (P := Try.prog) w a n cap Try.underlying25
    go_enter Try.func33, Try.ntmps33
    go_wp2_with (at_builtin
                 refine wpList_copy rfl _ _ rfl Try.underlying25 dep_info rfl (by decide) w (.slice (some a) n cap) n xs rfl rfl HH.out (by omega) (by omega) ?_)
    intro v2 w2 hown hb2
    have HO := Lib.hid hown
    have HB := Lib.hid hb2
    clear hown hb2
    go_wp2
    go_ret
    exact ⟨_, rfl, HO.out, HB.out⟩
end Go.Proofs.Ytjkmmmmbdfcnbaa
