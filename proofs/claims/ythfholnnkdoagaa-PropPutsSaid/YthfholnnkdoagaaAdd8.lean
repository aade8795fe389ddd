/-
  Layer 8: put's closure: one more piece, within the bound. Own work.
-/
import Derived.Test.YthfholnnkdoagaaCl8
import Derived.Test.YthfholnnkdoagaaBuilderK
namespace Go.Proofs.Ythfholnnkdoagaa
set_option linter.unusedVariables false
set_option linter.unusedSimpArgs false
open Go.RowKit

/-- what an error panics with -/
abbrev bad8 (e : Int) (n : List UInt8) : Ending := .panicked [{ v := .iface 77 (.agg #[.int .i64 e, .string (str n)]), recovered := false }]
def AddP (B b : Nat) (out piece owner : List UInt8) (w : World) (e : Ending) (w' : World) : Prop :=
  if 4096 < out.length + piece.length then e = bad8 2 owner ∧ Below w.heap.size w w'
  else e = .returned (.tuple #[]) ∧ Bld B b (out ++ piece) w' ∧ Below B w w' ∧ Lib.OthersKept 5 (some b) w w'
set_option maxHeartbeats 1000000 in
theorem add8_any (B b O : Nat) (out piece owner : List UInt8) (w : World) (h : Bld B b out w) (hO : w.cell? ⟨O, 0, none⟩ = some (.string (str owner))) (h1 : out.length ≤ 1000000) (h2 : piece.length ≤ 1000000) (hB : B ≤ w.heap.size) :
    Calls Try.prog 46 #[.string (str piece), .pointer (some ⟨b, 0, none⟩), .pointer (some ⟨O, 0, none⟩)] w (AddP B b out piece owner w) := by
  have hcells : (Lib.byteCells out).length = out.length := by simp [Lib.byteCells]
  have HLN := Lib.hid (show Calls Try.prog 47 #[.pointer (some ⟨b, 0, none⟩)] w fun e w' => e = .returned (.int .i64 (out.length : Int)) ∧ w' = w by
    have := Try.Builder_Len B b (Lib.byteCells out) w h
    rw [hcells] at this
    exact this)
  have HWS := Lib.hid (buk_writeString B b out (str piece) w h (by rw [size_str]; omega) hB)
  have hsz : (str piece).size = piece.length := size_str piece
  have hwr : IntKind.i64.wrap ((out.length : Int) + (piece.length : Int)) = (out.length : Int) + (piece.length : Int) := by rw [IntWalk.i64_in _ (by omega)]
  have e1 : (str piece).data.toList = piece := by simp [str]
  rw [e1] at HWS
  by_cases hb : 4096 < out.length + piece.length
  · have hbI : 4096 < (out.length : Int) + (piece.length : Int) := by omega
    have HP := Lib.hid (show ∀ e w', e = bad8 2 owner ∧ Below w.heap.size w w' → AddP B b out piece owner w e w' from fun e w' h => by unfold AddP; rw [if_pos hb]; exact h)
    clear hb h HWS hcells
    generalize AddP B b out piece owner w = Post at HP ⊢
    go_enter Try.func46, Try.ntmps46
    go_wp2_with (first | (go_at_call 47; refine HLN.out.mono ?_; rintro e w' ⟨rfl, rfl⟩))
    exact ⟨rfl, HP.out _ _ ⟨rfl, Below.refl _ _⟩⟩
  · have hbI : ¬ 4096 < (out.length : Int) + (piece.length : Int) := by omega
    have HP := Lib.hid (show ∀ w', Bld B b (out ++ piece) w' ∧ Below B w w' ∧ Lib.OthersKept 5 (some b) w w' → AddP B b out piece owner w (.returned (.tuple #[])) w' from fun w' h => by unfold AddP; rw [if_neg hb]; exact ⟨rfl, h⟩)
    clear hb h hcells
    generalize AddP B b out piece owner w = Post at HP ⊢
    go_enter Try.func46, Try.ntmps46
    go_wp2_with (first | (go_at_call 47; refine HLN.out.mono ?_; rintro e w' ⟨rfl, rfl⟩) | (go_at_call 48; refine HWS.out.mono ?_; rintro e w' ⟨rfl, h3⟩))
    go_end0
    exact HP.out _ h3
end Go.Proofs.Ythfholnnkdoagaa
