/-
  Layer 25: which may be edits: contracts of diff.maySide, mayEdit, May. Own work.
-/
import Derived.Test.YtoibanffaebllaaMem25
import Derived.Test.YtoibanffaebllaaMay24
import Derived.Deep.QuietTactic
import Derived.BigQuiet
import Derived.WalkLawsBesides
import Derived.Outline
namespace Go.Proofs.Ytoibanffaebllaa
set_option linter.unusedVariables false
set_option linter.unusedSimpArgs false
open Go.RowKit

set_option maxRecDepth 100000 in
set_option maxHeartbeats 2000000 in
theorem maySide_any (k : K4) (is : Bool) (p : Pn) (w : World) :
    Calls Try.prog 49 #[k.val, .bool is, pnV p] w fun e w' => e = .returned (.bool (sideB k is p)) ∧ Below w.heap.size w w' := by
  have HB := Lib.hid (show Below w.heap.size w ((w.alloc (.cells #[.string k.g, .string k.a, .string k.t, .string k.c] 46)).alloc (.cells #[.string p.g, .string p.a, .string p.t, .string p.c, .string p.v, .int .i64 p.sc] 48)) from ((Below.refl w.heap.size w).alloc (Nat.le_refl _) _).alloc (by simp) _)
  unfold K4.val keyV pnV
  cases is
  · have heq := fun w => eq_pin p zP w
    rw [show sameP p zP = sideB k false p from rfl] at heq
    generalize sideB k false p = b at heq ⊢
    unfold zP at heq
    simp only at heq
    go_enter Try.func49, Try.ntmps49
    go_wp2
    go_ret
    exact ⟨rfl, HB.out⟩
  · have heq := fun w => eq_key p.key k w
    rw [show sameK p.key k = sideB k true p from rfl] at heq
    generalize sideB k true p = b at heq ⊢
    unfold Pn.key at heq
    simp only at heq
    go_enter Try.func49, Try.ntmps49
    go_wp2
    go_ret
    exact ⟨rfl, HB.out⟩
set_option maxRecDepth 100000 in
set_option maxHeartbeats 4000000 in
theorem mayEdit_any (e : Ed) (w : World) :
    Calls Try.prog 32 #[.agg #[.string e.key.g, .string e.key.a, .string e.key.t, .string e.key.c, .bool e.had, .bool e.has, .string e.old.g, .string e.old.a, .string e.old.t, .string e.old.c, .string e.old.v, .int .i64 e.old.sc, .string e.new.g, .string e.new.a, .string e.new.t, .string e.new.c, .string e.new.v, .int .i64 e.new.sc]] w fun r w' => r = .returned (.bool (mayE e)) ∧ Below w.heap.size w w' := by
  have heq := fun w => eq_pin e.old e.new w
  have h1 := fun w => maySide_any e.key e.had e.old w
  have h2 := fun w => maySide_any e.key e.has e.new w
  have hm : mayE e = (!((!e.had && !e.has) || (e.had && e.has && sameP e.old e.new)) && (sideB e.key e.had e.old && sideB e.key e.has e.new)) := rfl
  have HB0 := Lib.hid (show Below w.heap.size w (w.alloc (.cells #[.string e.key.g, .string e.key.a, .string e.key.t, .string e.key.c, .bool e.had, .bool e.has, .string e.old.g, .string e.old.a, .string e.old.t, .string e.old.c, .string e.old.v, .int .i64 e.old.sc, .string e.new.g, .string e.new.a, .string e.new.t, .string e.new.c, .string e.new.v, .int .i64 e.new.sc] 50)) from (Below.refl w.heap.size w).alloc (Nat.le_refl _) _)
  have hin := EdIn.new w e
  generalize sameP e.old e.new = b0 at heq hm
  generalize sideB e.key e.had e.old = b1 at h1 hm
  generalize sideB e.key e.has e.new = b2 at h2 hm
  unfold K4.val keyV pnV at h1 h2
  have H1 := Lib.hid h1
  have H2 := Lib.hid h2
  have HM := Lib.hid hm
  clear h1 h2 hm
  generalize mayE e = R at HM ⊢
  obtain ⟨ek, had, has, old, new⟩ := e
  simp only at H1 H2 HM heq HB0 hin ⊢
  have HIN := Lib.hid hin
  clear hin
  have hw : (((!had && !has) || (had && has && b0)) = true ∧ R = false) ∨ ((!had && !has) || (had && has && b0)) = false ∧ b1 = false ∧ R = false ∨ ((!had && !has) || (had && has && b0)) = false ∧ b1 = true ∧ R = b2 := by
    rw [HM.out]
    cases ((!had && !has) || (had && has && b0)) <;> cases b1 <;> simp
  rcases hw with ⟨hx, rfl⟩ | ⟨hx, rfl, rfl⟩ | ⟨hx, rfl, rfl⟩
  · have hx' : (had = false ∧ has = false) ∨ (had = true ∧ has = true ∧ b0 = true) := by
      cases had <;> cases has <;> cases b0 <;> simp_all
    clear hx HM
    rcases hx' with ⟨rfl, rfl⟩ | ⟨rfl, rfl, rfl⟩
    all_goals
      go_enter Try.func32, Try.ntmps32
      go_wp2
      go_ret
      exact ⟨rfl, HB0.out⟩
  · have hx' : (had = true ∧ has = false) ∨ (had = false ∧ has = true) ∨ (had = true ∧ has = true ∧ b0 = false) := by
      cases had <;> cases has <;> cases b0 <;> simp_all
    clear hx HM
    rcases hx' with ⟨rfl, rfl⟩ | ⟨rfl, rfl⟩ | ⟨rfl, rfl, rfl⟩
    all_goals
      go_enter Try.func32, Try.ntmps32
      go_wp2_with fail
      refine (H1.out _).mono ?_
      rintro r w2 ⟨rfl, hb2⟩
      have HB2 := Lib.hid (HB0.out.trans (hb2.mono HB0.out.size))
      clear hb2
      go_wp2
      go_ret
      exact ⟨rfl, HB2.out⟩
  · have hx' : (had = true ∧ has = false) ∨ (had = false ∧ has = true) ∨ (had = true ∧ has = true ∧ b0 = false) := by
      cases had <;> cases has <;> cases b0 <;> simp_all
    clear hx HM
    rcases hx' with ⟨rfl, rfl⟩ | ⟨rfl, rfl⟩ | ⟨rfl, rfl, rfl⟩
    all_goals
      go_enter Try.func32, Try.ntmps32
      go_wp2_with fail
      refine (H1.out _).mono ?_
      rintro r w2 ⟨rfl, hb2⟩
      have HB2 := Lib.hid (HB0.out.trans (hb2.mono HB0.out.size))
      obtain ⟨y0, y1, y2, y3, y4, y5, y6, y7, y8, y9, y10, y11, y12, y13, y14, y15, y16, y17⟩ := HIN.out.below hb2 (Nat.le_refl _)
      simp only at y0 y1 y2 y3 y4 y5 y6 y7 y8 y9 y10 y11 y12 y13 y14 y15 y16 y17
      clear hb2
      go_wp2_with fail
      refine (H2.out _).mono ?_
      rintro r w3 ⟨rfl, hb3⟩
      have HB3 := Lib.hid (HB2.out.trans (hb3.mono HB2.out.size))
      clear hb3 y0 y1 y2 y3 y4 y5 y6 y7 y8 y9 y10 y11 y12 y13 y14 y15 y16 y17
      go_wp2
      go_ret
      exact ⟨rfl, HB3.out⟩
theorem keep22 {w1 w2 W2 : World} {A0 A1 A2 A3 A4 A5 A6 A7 A8 A9 A10 A11 A12 A13 A14 A15 A16 A17 A18 A19 A20 A21 : Addr} {x0 x1 x2 x3 x4 x5 x6 x7 x8 x9 x10 x11 x12 x13 x14 x15 x16 x17 x18 x19 x20 x21 : Value} (h : w1.cell? A0 = some x0 ∧ w1.cell? A1 = some x1 ∧ w1.cell? A2 = some x2 ∧ w1.cell? A3 = some x3 ∧ w1.cell? A4 = some x4 ∧ w1.cell? A5 = some x5 ∧ w1.cell? A6 = some x6 ∧ w1.cell? A7 = some x7 ∧ w1.cell? A8 = some x8 ∧ w1.cell? A9 = some x9 ∧ w1.cell? A10 = some x10 ∧ w1.cell? A11 = some x11 ∧ w1.cell? A12 = some x12 ∧ w1.cell? A13 = some x13 ∧ w1.cell? A14 = some x14 ∧ w1.cell? A15 = some x15 ∧ w1.cell? A16 = some x16 ∧ w1.cell? A17 = some x17 ∧ w1.cell? A18 = some x18 ∧ w1.cell? A19 = some x19 ∧ w1.cell? A20 = some x20 ∧ w1.cell? A21 = some x21 ∧ Below W2.heap.size W2 w1) (hb : Below w1.heap.size w1 w2) : w2.cell? A0 = some x0 ∧ w2.cell? A1 = some x1 ∧ w2.cell? A2 = some x2 ∧ w2.cell? A3 = some x3 ∧ w2.cell? A4 = some x4 ∧ w2.cell? A5 = some x5 ∧ w2.cell? A6 = some x6 ∧ w2.cell? A7 = some x7 ∧ w2.cell? A8 = some x8 ∧ w2.cell? A9 = some x9 ∧ w2.cell? A10 = some x10 ∧ w2.cell? A11 = some x11 ∧ w2.cell? A12 = some x12 ∧ w2.cell? A13 = some x13 ∧ w2.cell? A14 = some x14 ∧ w2.cell? A15 = some x15 ∧ w2.cell? A16 = some x16 ∧ w2.cell? A17 = some x17 ∧ w2.cell? A18 = some x18 ∧ w2.cell? A19 = some x19 ∧ w2.cell? A20 = some x20 ∧ w2.cell? A21 = some x21 ∧ Below W2.heap.size W2 w2 := by
  obtain ⟨h0, h1, h2, h3, h4, h5, h6, h7, h8, h9, h10, h11, h12, h13, h14, h15, h16, h17, h18, h19, h20, h21, hB⟩ := h
  have hc : ∀ {A : Addr} {x : Value}, w1.cell? A = some x → w2.cell? A = some x := fun hx => (hb.cell (World.block_lt_of_cell? w1 _ hx)).trans hx
  exact ⟨hc h0, hc h1, hc h2, hc h3, hc h4, hc h5, hc h6, hc h7, hc h8, hc h9, hc h10, hc h11, hc h12, hc h13, hc h14, hc h15, hc h16, hc h17, hc h18, hc h19, hc h20, hc h21, hB.trans (hb.mono hB.size)⟩
theorem keep22d {w1 W2 : World} {A0 A1 A2 A3 A4 A5 A6 A7 A8 A9 A10 A11 A12 A13 A14 A15 A16 A17 A18 A19 A20 A21 : Addr} {x0 x1 x2 x3 x4 x5 x6 x7 x8 x9 x10 x11 x12 x13 x14 x15 x16 x17 x18 x19 x20 x21 : Value} (h : w1.cell? A0 = some x0 ∧ w1.cell? A1 = some x1 ∧ w1.cell? A2 = some x2 ∧ w1.cell? A3 = some x3 ∧ w1.cell? A4 = some x4 ∧ w1.cell? A5 = some x5 ∧ w1.cell? A6 = some x6 ∧ w1.cell? A7 = some x7 ∧ w1.cell? A8 = some x8 ∧ w1.cell? A9 = some x9 ∧ w1.cell? A10 = some x10 ∧ w1.cell? A11 = some x11 ∧ w1.cell? A12 = some x12 ∧ w1.cell? A13 = some x13 ∧ w1.cell? A14 = some x14 ∧ w1.cell? A15 = some x15 ∧ w1.cell? A16 = some x16 ∧ w1.cell? A17 = some x17 ∧ w1.cell? A18 = some x18 ∧ w1.cell? A19 = some x19 ∧ w1.cell? A20 = some x20 ∧ w1.cell? A21 = some x21 ∧ Below W2.heap.size W2 w1) : w1.drew.cell? A0 = some x0 ∧ w1.drew.cell? A1 = some x1 ∧ w1.drew.cell? A2 = some x2 ∧ w1.drew.cell? A3 = some x3 ∧ w1.drew.cell? A4 = some x4 ∧ w1.drew.cell? A5 = some x5 ∧ w1.drew.cell? A6 = some x6 ∧ w1.drew.cell? A7 = some x7 ∧ w1.drew.cell? A8 = some x8 ∧ w1.drew.cell? A9 = some x9 ∧ w1.drew.cell? A10 = some x10 ∧ w1.drew.cell? A11 = some x11 ∧ w1.drew.cell? A12 = some x12 ∧ w1.drew.cell? A13 = some x13 ∧ w1.drew.cell? A14 = some x14 ∧ w1.drew.cell? A15 = some x15 ∧ w1.drew.cell? A16 = some x16 ∧ w1.drew.cell? A17 = some x17 ∧ w1.drew.cell? A18 = some x18 ∧ w1.drew.cell? A19 = some x19 ∧ w1.drew.cell? A20 = some x20 ∧ w1.drew.cell? A21 = some x21 ∧ Below W2.heap.size W2 w1.drew := by
  obtain ⟨h0, h1, h2, h3, h4, h5, h6, h7, h8, h9, h10, h11, h12, h13, h14, h15, h16, h17, h18, h19, h20, h21, hB⟩ := h
  exact ⟨h0, h1, h2, h3, h4, h5, h6, h7, h8, h9, h10, h11, h12, h13, h14, h15, h16, h17, h18, h19, h20, h21, hB.drew⟩
theorem keep22b {w1 W2 : World} {A0 A1 A2 A3 A4 A5 A6 A7 A8 A9 A10 A11 A12 A13 A14 A15 A16 A17 A18 A19 A20 A21 : Addr} {x0 x1 x2 x3 x4 x5 x6 x7 x8 x9 x10 x11 x12 x13 x14 x15 x16 x17 x18 x19 x20 x21 : Value} (h : w1.cell? A0 = some x0 ∧ w1.cell? A1 = some x1 ∧ w1.cell? A2 = some x2 ∧ w1.cell? A3 = some x3 ∧ w1.cell? A4 = some x4 ∧ w1.cell? A5 = some x5 ∧ w1.cell? A6 = some x6 ∧ w1.cell? A7 = some x7 ∧ w1.cell? A8 = some x8 ∧ w1.cell? A9 = some x9 ∧ w1.cell? A10 = some x10 ∧ w1.cell? A11 = some x11 ∧ w1.cell? A12 = some x12 ∧ w1.cell? A13 = some x13 ∧ w1.cell? A14 = some x14 ∧ w1.cell? A15 = some x15 ∧ w1.cell? A16 = some x16 ∧ w1.cell? A17 = some x17 ∧ w1.cell? A18 = some x18 ∧ w1.cell? A19 = some x19 ∧ w1.cell? A20 = some x20 ∧ w1.cell? A21 = some x21 ∧ Below W2.heap.size W2 w1) : Below W2.heap.size W2 w1 := by
  obtain ⟨h0, h1, h2, h3, h4, h5, h6, h7, h8, h9, h10, h11, h12, h13, h14, h15, h16, h17, h18, h19, h20, h21, hB⟩ := h
  exact hB
end Go.Proofs.Ytoibanffaebllaa
