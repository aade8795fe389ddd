/-
  Layer 6: CoordCompares where no text is too long. Own work.
-/
import Derived.Test.YtinhedegbaegnaaDoorRefCmp6
import Derived.RegionTactic
import Derived.BigRegion
import Derived.Deep.CutRange
import Derived.Deep.DeepCutAuto
import Derived.Laws.StructEq
namespace Go.Proofs.YtinhedegbaegnaaDoor
set_option linter.unusedVariables false
set_option linter.unusedSimpArgs false
open Go.RowKit

def bigK (k : K4) : Prop := ((k.g.size > 400 ∨ k.a.size > 400) ∨ k.t.size > 400) ∨ k.c.size > 400
/-- block g holds the key k -/
def KAt (w : World) (g : Nat) (k : K4) : Prop := w.heap[g]? = some (.cells #[.string k.g, .string k.a, .string k.t, .string k.c] 25 (0, 0))
theorem KAt.below {w w' : World} {g : Nat} {k : K4} (h : KAt w g k) (hb : Below w.heap.size w w') : KAt w' g k := (hb.block _ (Array.getElem?_eq_some_iff.1 h).1).trans h
theorem KAt.cells {w : World} {g : Nat} {k : K4} (h : KAt w g k) : w.cell? ⟨g, 0, none⟩ = some (.string k.g) ∧ w.cell? ⟨g, 1, none⟩ = some (.string k.a) ∧ w.cell? ⟨g, 2, none⟩ = some (.string k.t) ∧ w.cell? ⟨g, 3, none⟩ = some (.string k.c) := by
  refine ⟨?_, ?_, ?_, ?_⟩ <;> rw [Lib.cell_of_heap h] <;> rfl
def Three (w : World) (x y z : K4) (s5 s6 s7 : Value) (wx : World) : Prop :=
  ∃ g5 g6 g7 : Nat, s5 = .pointer (some ⟨g5, 0, none⟩) ∧ s6 = .pointer (some ⟨g6, 0, none⟩) ∧ s7 = .pointer (some ⟨g7, 0, none⟩) ∧ KAt wx g5 x ∧ KAt wx g6 y ∧ KAt wx g7 z ∧ Below w.heap.size w wx
theorem eq_key (x y : K4) (w : World) : (binOp .eql 25 (.agg #[.string x.g, .string x.a, .string x.t, .string x.c]) (.agg #[.string y.g, .string y.a, .string y.t, .string y.c])).run Tryd.prog w =
    .ok (.bool (x.g.toList == y.g.toList && (x.a.toList == y.a.toList && (x.t.toList == y.t.toList && x.c.toList == y.c.toList)))) w := by
  have u3 := Tryd.underlying9
  have a3 := Tryd.isAgg9
  have z3 := Tryd.sizeOf9
  have hS : Tryd.prog.underlying 25 = some (.struct (Tryd.prog.fieldsOf 25)) := by kernel_rfl
  have hp : Tryd.prog.stoodInHeld 25 = false := by kernel_rfl
  rw [run_eql_struct, show (10000 : Nat) = 9999 + 1 from rfl, run_equalIn_agg w 9999 25 _ _ hS hp]
  simp only [Program.fieldsOf, Tryd.underlying25]
  go_simp
  by_cases h1 : x.g.toList = y.g.toList <;> by_cases h2 : x.a.toList = y.a.toList <;> by_cases h3 : x.t.toList = y.t.toList <;> by_cases h4 : x.c.toList = y.c.toList <;> simp [h1, h2, h3, h4]
theorem tl_eq {a b : ByteArray} (h : a.toList = b.toList) : a = b := by
  rw [ByteArray.toList_eq, ByteArray.toList_eq] at h
  exact ByteArray.ext (Array.toList_inj.1 h)
theorem eq_kcmp (x y : K4) : (x.g.toList == y.g.toList && (x.a.toList == y.a.toList && (x.t.toList == y.t.toList && x.c.toList == y.c.toList))) = decide (kcmp x y = 0) := by
  rw [Bool.eq_iff_iff]
  simp only [Bool.and_eq_true, beq_iff_eq, decide_eq_true_eq]
  constructor
  · rintro ⟨a, b, c, d⟩
    obtain ⟨x0, x1, x2, x3⟩ := x
    obtain ⟨y0, y1, y2, y3⟩ := y
    simp only at a b c d
    rw [tl_eq a, tl_eq b, tl_eq c, tl_eq d, kcmp_ord.self]
  · intro h
    rw [kcmp_zero h]
    exact ⟨rfl, rfl, rfl, rfl⟩
theorem kat_new {W : World} {g : Nat} {k : K4} (hg : g = W.heap.size) : KAt (W.alloc (.cells #[.string k.g, .string k.a, .string k.t, .string k.c] 25)) g k := by
  subst hg; exact heap_alloc_new W _
theorem KAt.alloc {w : World} {g : Nat} {k : K4} (h : KAt w g k) (o : Obj) : KAt (w.alloc o) g k := h.below ((Below.refl _ _).alloc (Nat.le_refl _) _)
theorem KAt.drew {w : World} {g : Nat} {k : K4} (h : KAt w g k) : KAt w.drew g k := h
set_option maxHeartbeats 8000000 in
set_option maxRecDepth 100000 in
theorem cc_main (x y z : K4) (w : World) (hlives : ∀ w', Below w.heap.size w w' → Calls Tryd.prog 11 #[] w' fun e w2 => e = .returned (.bool true) ∧ Below w.heap.size w w2) (qx : ¬ bigK x) (qy : ¬ bigK y) (qz : ¬ bigK z) :
    Calls Tryd.prog 6 #[.agg #[.string x.g, .string x.a, .string x.t, .string x.c, .string y.g, .string y.a, .string y.t, .string y.c, .string z.g, .string z.a, .string z.t, .string z.c]] w fun e w' => e = .returned (.bool true) ∧ Below w.heap.size w w' := by
  have HL := Lib.hid hlives; clear hlives
  have i0 : ∀ w, (Instr.index 45 (.agg #[.string x.g, .string x.a, .string x.t, .string x.c, .string y.g, .string y.a, .string y.t, .string y.c, .string z.g, .string z.a, .string z.t, .string z.c]) (.int .i64 0)).run Tryd.prog w = .ok (.agg #[.string x.g, .string x.a, .string x.t, .string x.c]) w := fun _ => by kernel_rfl
  have i1 : ∀ w, (Instr.index 45 (.agg #[.string x.g, .string x.a, .string x.t, .string x.c, .string y.g, .string y.a, .string y.t, .string y.c, .string z.g, .string z.a, .string z.t, .string z.c]) (.int .i64 1)).run Tryd.prog w = .ok (.agg #[.string y.g, .string y.a, .string y.t, .string y.c]) w := fun _ => by kernel_rfl
  have i2 : ∀ w, (Instr.index 45 (.agg #[.string x.g, .string x.a, .string x.t, .string x.c, .string y.g, .string y.a, .string y.t, .string y.c, .string z.g, .string z.a, .string z.t, .string z.c]) (.int .i64 2)).run Tryd.prog w = .ok (.agg #[.string z.g, .string z.a, .string z.t, .string z.c]) w := fun _ => by kernel_rfl
  have qxg : (x.g.size : Int) ≤ 400 := by unfold bigK at qx; omega
  have qxa : (x.a.size : Int) ≤ 400 := by unfold bigK at qx; omega
  have qxt : (x.t.size : Int) ≤ 400 := by unfold bigK at qx; omega
  have qxc : (x.c.size : Int) ≤ 400 := by unfold bigK at qx; omega
  clear qx
  have qyg : (y.g.size : Int) ≤ 400 := by unfold bigK at qy; omega
  have qya : (y.a.size : Int) ≤ 400 := by unfold bigK at qy; omega
  have qyt : (y.t.size : Int) ≤ 400 := by unfold bigK at qy; omega
  have qyc : (y.c.size : Int) ≤ 400 := by unfold bigK at qy; omega
  clear qy
  have qzg : (z.g.size : Int) ≤ 400 := by unfold bigK at qz; omega
  have qza : (z.a.size : Int) ≤ 400 := by unfold bigK at qz; omega
  have qzt : (z.t.size : Int) ≤ 400 := by unfold bigK at qz; omega
  have qzc : (z.c.size : Int) ≤ 400 := by unfold bigK at qz; omega
  clear qz
  go_enter Tryd.func6, Tryd.ntmps6
  go_wp2
  refine wp_loop_rounds 4 ?_
  rw [rounds_succ]
  go_wp2_with fail
  rw [rounds_succ]
  go_wp2_with fail
  rw [rounds_succ]
  go_wp2_with fail
  rw [rounds_succ]
  go_wp2_with fail
  clear i0 i1 i2 qxg qxa qxt qxc qyg qya qyt qyc qzg qza qzt qzc
  go_cut [5, 6, 7] from 9 to 83 (fun s5 s6 s7 wx => Three w x y z s5 s6 s7 wx)
  case first =>
    go_region
    all_goals
      go_wp2_with fail
      go_meet
      refine ⟨_, _, _, rfl, rfl, rfl, ?_, ?_, ?_, ?_⟩
      all_goals first
        | exact (kat_new (by simp)).drew
        | exact ((kat_new (by simp)).alloc _).drew
        | exact (((kat_new (by simp)).alloc _).alloc _).drew
        | exact (((((((Below.refl _ _).alloc (Nat.le_refl _) _).alloc (by simp) _).alloc (by simp; omega) _).alloc (by simp; omega) _).alloc (by simp; omega) _).alloc (by simp; omega) _).alloc (by simp; omega) _ |>.drew
  case rest =>
    obtain ⟨g5, g6, g7, rfl, rfl, rfl, k5, k6, k7, hb⟩ := hcut
    have c1 := fun w => Compare6_any x y w
    have c2 := fun w => refCompare6_any x y w
    have c3 := fun w => Compare6_any y x w
    have c4 := fun w => Compare6_any y z w
    have c5 := fun w => Compare6_any x z w
    have heq := fun w => eq_key x y w
    rw [eq_kcmp] at heq
    have n1 := kcmp_ord.neg x y
    have t1 := kcmp_ord.trans x y z
    have r1 := kcmp_ord.rng x y
    have r2 := kcmp_ord.rng y z
    have r3 := kcmp_ord.rng x z
    unfold K4.val keyV at c1 c2 c3 c4 c5
    rw [n1] at c3
    clear n1
    generalize kcmp x y = n at *
    generalize kcmp y z = p at *
    generalize kcmp x z = q at *
    obtain ⟨a0, a1, a2, a3⟩ := k5.cells
    obtain ⟨b0, b1, b2, b3⟩ := k6.cells
    obtain ⟨d0, d1, d2, d3⟩ := k7.cells
    have C1 := Lib.hid c1
    have C2 := Lib.hid c2
    have C3 := Lib.hid c3
    have C4 := Lib.hid c4
    have C5 := Lib.hid c5
    clear c1 c2 c3 c4 c5
    rcases r1 with rfl | rfl | rfl
    case inr.inr =>
      have heq2 : decide ((1 : Int) = 0) = false := by decide
      rw [heq2] at heq
      clear heq2 t1 r2 r3
      go_wp2_with fail
      refine (C1.out _).mono ?_
      rintro e x1 ⟨rfl, hb1⟩
      have k5 := k5.below hb1
      have k6 := k6.below hb1
      have k7 := k7.below hb1
      have hb := hb.trans (hb1.mono hb.size)
      obtain ⟨a0, a1, a2, a3⟩ := k5.cells
      obtain ⟨b0, b1, b2, b3⟩ := k6.cells
      obtain ⟨d0, d1, d2, d3⟩ := k7.cells
      clear hb1
      go_wp2_with fail
      refine (C2.out _).mono ?_
      rintro e x2 ⟨rfl, hb2⟩
      have k5 := k5.below hb2
      have k6 := k6.below hb2
      have k7 := k7.below hb2
      have hb := hb.trans (hb2.mono hb.size)
      obtain ⟨a0, a1, a2, a3⟩ := k5.cells
      obtain ⟨b0, b1, b2, b3⟩ := k6.cells
      obtain ⟨d0, d1, d2, d3⟩ := k7.cells
      clear hb2
      go_wp2_with fail
      refine (C3.out _).mono ?_
      rintro e x3 ⟨rfl, hb3⟩
      have k5 := k5.below hb3
      have k6 := k6.below hb3
      have k7 := k7.below hb3
      have hb := hb.trans (hb3.mono hb.size)
      obtain ⟨a0, a1, a2, a3⟩ := k5.cells
      obtain ⟨b0, b1, b2, b3⟩ := k6.cells
      obtain ⟨d0, d1, d2, d3⟩ := k7.cells
      clear hb3
      go_wp2_with fail
      refine (HL.out _ hb).mono ?_
      rintro e x9 ⟨rfl, hb9⟩
      go_wp2
      go_ret
      exact ⟨rfl, hb9⟩
    case inl =>
      have heq2 : decide ((-1 : Int) = 0) = false := by decide
      rw [heq2] at heq
      clear heq2
      rcases r2 with rfl | rfl | rfl
      case inl =>
        rcases r3 with rfl | rfl | rfl
        case inr.inr => exfalso; omega
        all_goals
          clear t1
          go_wp2_with fail
          refine (C1.out _).mono ?_
          rintro e x1 ⟨rfl, hb1⟩
          have k5 := k5.below hb1
          have k6 := k6.below hb1
          have k7 := k7.below hb1
          have hb := hb.trans (hb1.mono hb.size)
          obtain ⟨a0, a1, a2, a3⟩ := k5.cells
          obtain ⟨b0, b1, b2, b3⟩ := k6.cells
          obtain ⟨d0, d1, d2, d3⟩ := k7.cells
          clear hb1
          go_wp2_with fail
          refine (C2.out _).mono ?_
          rintro e x2 ⟨rfl, hb2⟩
          have k5 := k5.below hb2
          have k6 := k6.below hb2
          have k7 := k7.below hb2
          have hb := hb.trans (hb2.mono hb.size)
          obtain ⟨a0, a1, a2, a3⟩ := k5.cells
          obtain ⟨b0, b1, b2, b3⟩ := k6.cells
          obtain ⟨d0, d1, d2, d3⟩ := k7.cells
          clear hb2
          go_wp2_with fail
          refine (C3.out _).mono ?_
          rintro e x3 ⟨rfl, hb3⟩
          have k5 := k5.below hb3
          have k6 := k6.below hb3
          have k7 := k7.below hb3
          have hb := hb.trans (hb3.mono hb.size)
          obtain ⟨a0, a1, a2, a3⟩ := k5.cells
          obtain ⟨b0, b1, b2, b3⟩ := k6.cells
          obtain ⟨d0, d1, d2, d3⟩ := k7.cells
          clear hb3
          go_wp2_with fail
          refine (C4.out _).mono ?_
          rintro e x4 ⟨rfl, hb4⟩
          have k5 := k5.below hb4
          have k6 := k6.below hb4
          have k7 := k7.below hb4
          have hb := hb.trans (hb4.mono hb.size)
          obtain ⟨a0, a1, a2, a3⟩ := k5.cells
          obtain ⟨b0, b1, b2, b3⟩ := k6.cells
          obtain ⟨d0, d1, d2, d3⟩ := k7.cells
          clear hb4
          go_wp2_with fail
          refine (C5.out _).mono ?_
          rintro e x5 ⟨rfl, hb5⟩
          have k5 := k5.below hb5
          have k6 := k6.below hb5
          have k7 := k7.below hb5
          have hb := hb.trans (hb5.mono hb.size)
          obtain ⟨a0, a1, a2, a3⟩ := k5.cells
          obtain ⟨b0, b1, b2, b3⟩ := k6.cells
          obtain ⟨d0, d1, d2, d3⟩ := k7.cells
          clear hb5
          go_wp2_with fail
          refine (HL.out _ hb).mono ?_
          rintro e x9 ⟨rfl, hb9⟩
          go_wp2
          go_ret
          exact ⟨rfl, hb9⟩
      case inr.inl =>
        rcases r3 with rfl | rfl | rfl
        case inr.inr => exfalso; omega
        all_goals
          clear t1
          go_wp2_with fail
          refine (C1.out _).mono ?_
          rintro e x1 ⟨rfl, hb1⟩
          have k5 := k5.below hb1
          have k6 := k6.below hb1
          have k7 := k7.below hb1
          have hb := hb.trans (hb1.mono hb.size)
          obtain ⟨a0, a1, a2, a3⟩ := k5.cells
          obtain ⟨b0, b1, b2, b3⟩ := k6.cells
          obtain ⟨d0, d1, d2, d3⟩ := k7.cells
          clear hb1
          go_wp2_with fail
          refine (C2.out _).mono ?_
          rintro e x2 ⟨rfl, hb2⟩
          have k5 := k5.below hb2
          have k6 := k6.below hb2
          have k7 := k7.below hb2
          have hb := hb.trans (hb2.mono hb.size)
          obtain ⟨a0, a1, a2, a3⟩ := k5.cells
          obtain ⟨b0, b1, b2, b3⟩ := k6.cells
          obtain ⟨d0, d1, d2, d3⟩ := k7.cells
          clear hb2
          go_wp2_with fail
          refine (C3.out _).mono ?_
          rintro e x3 ⟨rfl, hb3⟩
          have k5 := k5.below hb3
          have k6 := k6.below hb3
          have k7 := k7.below hb3
          have hb := hb.trans (hb3.mono hb.size)
          obtain ⟨a0, a1, a2, a3⟩ := k5.cells
          obtain ⟨b0, b1, b2, b3⟩ := k6.cells
          obtain ⟨d0, d1, d2, d3⟩ := k7.cells
          clear hb3
          go_wp2_with fail
          refine (C4.out _).mono ?_
          rintro e x4 ⟨rfl, hb4⟩
          have k5 := k5.below hb4
          have k6 := k6.below hb4
          have k7 := k7.below hb4
          have hb := hb.trans (hb4.mono hb.size)
          obtain ⟨a0, a1, a2, a3⟩ := k5.cells
          obtain ⟨b0, b1, b2, b3⟩ := k6.cells
          obtain ⟨d0, d1, d2, d3⟩ := k7.cells
          clear hb4
          go_wp2_with fail
          refine (C5.out _).mono ?_
          rintro e x5 ⟨rfl, hb5⟩
          have k5 := k5.below hb5
          have k6 := k6.below hb5
          have k7 := k7.below hb5
          have hb := hb.trans (hb5.mono hb.size)
          obtain ⟨a0, a1, a2, a3⟩ := k5.cells
          obtain ⟨b0, b1, b2, b3⟩ := k6.cells
          obtain ⟨d0, d1, d2, d3⟩ := k7.cells
          clear hb5
          go_wp2_with fail
          refine (HL.out _ hb).mono ?_
          rintro e x9 ⟨rfl, hb9⟩
          go_wp2
          go_ret
          exact ⟨rfl, hb9⟩
      case inr.inr =>
        clear t1 r3
        go_wp2_with fail
        refine (C1.out _).mono ?_
        rintro e x1 ⟨rfl, hb1⟩
        have k5 := k5.below hb1
        have k6 := k6.below hb1
        have k7 := k7.below hb1
        have hb := hb.trans (hb1.mono hb.size)
        obtain ⟨a0, a1, a2, a3⟩ := k5.cells
        obtain ⟨b0, b1, b2, b3⟩ := k6.cells
        obtain ⟨d0, d1, d2, d3⟩ := k7.cells
        clear hb1
        go_wp2_with fail
        refine (C2.out _).mono ?_
        rintro e x2 ⟨rfl, hb2⟩
        have k5 := k5.below hb2
        have k6 := k6.below hb2
        have k7 := k7.below hb2
        have hb := hb.trans (hb2.mono hb.size)
        obtain ⟨a0, a1, a2, a3⟩ := k5.cells
        obtain ⟨b0, b1, b2, b3⟩ := k6.cells
        obtain ⟨d0, d1, d2, d3⟩ := k7.cells
        clear hb2
        go_wp2_with fail
        refine (C3.out _).mono ?_
        rintro e x3 ⟨rfl, hb3⟩
        have k5 := k5.below hb3
        have k6 := k6.below hb3
        have k7 := k7.below hb3
        have hb := hb.trans (hb3.mono hb.size)
        obtain ⟨a0, a1, a2, a3⟩ := k5.cells
        obtain ⟨b0, b1, b2, b3⟩ := k6.cells
        obtain ⟨d0, d1, d2, d3⟩ := k7.cells
        clear hb3
        go_wp2_with fail
        refine (C4.out _).mono ?_
        rintro e x4 ⟨rfl, hb4⟩
        have k5 := k5.below hb4
        have k6 := k6.below hb4
        have k7 := k7.below hb4
        have hb := hb.trans (hb4.mono hb.size)
        obtain ⟨a0, a1, a2, a3⟩ := k5.cells
        obtain ⟨b0, b1, b2, b3⟩ := k6.cells
        obtain ⟨d0, d1, d2, d3⟩ := k7.cells
        clear hb4
        go_wp2_with fail
        refine (HL.out _ hb).mono ?_
        rintro e x9 ⟨rfl, hb9⟩
        go_wp2
        go_ret
        exact ⟨rfl, hb9⟩
    case inr.inl =>
      have heq2 : decide ((0 : Int) = 0) = true := by decide
      rw [heq2] at heq
      clear heq2
      rcases r2 with rfl | rfl | rfl
      case inl =>
        rcases r3 with rfl | rfl | rfl
        case inr.inr => exfalso; omega
        all_goals
          clear t1
          go_wp2_with fail
          refine (C1.out _).mono ?_
          rintro e x1 ⟨rfl, hb1⟩
          have k5 := k5.below hb1
          have k6 := k6.below hb1
          have k7 := k7.below hb1
          have hb := hb.trans (hb1.mono hb.size)
          obtain ⟨a0, a1, a2, a3⟩ := k5.cells
          obtain ⟨b0, b1, b2, b3⟩ := k6.cells
          obtain ⟨d0, d1, d2, d3⟩ := k7.cells
          clear hb1
          go_wp2_with fail
          refine (C2.out _).mono ?_
          rintro e x2 ⟨rfl, hb2⟩
          have k5 := k5.below hb2
          have k6 := k6.below hb2
          have k7 := k7.below hb2
          have hb := hb.trans (hb2.mono hb.size)
          obtain ⟨a0, a1, a2, a3⟩ := k5.cells
          obtain ⟨b0, b1, b2, b3⟩ := k6.cells
          obtain ⟨d0, d1, d2, d3⟩ := k7.cells
          clear hb2
          go_wp2_with fail
          refine (C3.out _).mono ?_
          rintro e x3 ⟨rfl, hb3⟩
          have k5 := k5.below hb3
          have k6 := k6.below hb3
          have k7 := k7.below hb3
          have hb := hb.trans (hb3.mono hb.size)
          obtain ⟨a0, a1, a2, a3⟩ := k5.cells
          obtain ⟨b0, b1, b2, b3⟩ := k6.cells
          obtain ⟨d0, d1, d2, d3⟩ := k7.cells
          clear hb3
          go_wp2_with fail
          refine (C4.out _).mono ?_
          rintro e x4 ⟨rfl, hb4⟩
          have k5 := k5.below hb4
          have k6 := k6.below hb4
          have k7 := k7.below hb4
          have hb := hb.trans (hb4.mono hb.size)
          obtain ⟨a0, a1, a2, a3⟩ := k5.cells
          obtain ⟨b0, b1, b2, b3⟩ := k6.cells
          obtain ⟨d0, d1, d2, d3⟩ := k7.cells
          clear hb4
          go_wp2_with fail
          refine (C5.out _).mono ?_
          rintro e x5 ⟨rfl, hb5⟩
          have k5 := k5.below hb5
          have k6 := k6.below hb5
          have k7 := k7.below hb5
          have hb := hb.trans (hb5.mono hb.size)
          obtain ⟨a0, a1, a2, a3⟩ := k5.cells
          obtain ⟨b0, b1, b2, b3⟩ := k6.cells
          obtain ⟨d0, d1, d2, d3⟩ := k7.cells
          clear hb5
          go_wp2_with fail
          refine (HL.out _ hb).mono ?_
          rintro e x9 ⟨rfl, hb9⟩
          go_wp2
          go_ret
          exact ⟨rfl, hb9⟩
      case inr.inl =>
        rcases r3 with rfl | rfl | rfl
        case inr.inr => exfalso; omega
        all_goals
          clear t1
          go_wp2_with fail
          refine (C1.out _).mono ?_
          rintro e x1 ⟨rfl, hb1⟩
          have k5 := k5.below hb1
          have k6 := k6.below hb1
          have k7 := k7.below hb1
          have hb := hb.trans (hb1.mono hb.size)
          obtain ⟨a0, a1, a2, a3⟩ := k5.cells
          obtain ⟨b0, b1, b2, b3⟩ := k6.cells
          obtain ⟨d0, d1, d2, d3⟩ := k7.cells
          clear hb1
          go_wp2_with fail
          refine (C2.out _).mono ?_
          rintro e x2 ⟨rfl, hb2⟩
          have k5 := k5.below hb2
          have k6 := k6.below hb2
          have k7 := k7.below hb2
          have hb := hb.trans (hb2.mono hb.size)
          obtain ⟨a0, a1, a2, a3⟩ := k5.cells
          obtain ⟨b0, b1, b2, b3⟩ := k6.cells
          obtain ⟨d0, d1, d2, d3⟩ := k7.cells
          clear hb2
          go_wp2_with fail
          refine (C3.out _).mono ?_
          rintro e x3 ⟨rfl, hb3⟩
          have k5 := k5.below hb3
          have k6 := k6.below hb3
          have k7 := k7.below hb3
          have hb := hb.trans (hb3.mono hb.size)
          obtain ⟨a0, a1, a2, a3⟩ := k5.cells
          obtain ⟨b0, b1, b2, b3⟩ := k6.cells
          obtain ⟨d0, d1, d2, d3⟩ := k7.cells
          clear hb3
          go_wp2_with fail
          refine (C4.out _).mono ?_
          rintro e x4 ⟨rfl, hb4⟩
          have k5 := k5.below hb4
          have k6 := k6.below hb4
          have k7 := k7.below hb4
          have hb := hb.trans (hb4.mono hb.size)
          obtain ⟨a0, a1, a2, a3⟩ := k5.cells
          obtain ⟨b0, b1, b2, b3⟩ := k6.cells
          obtain ⟨d0, d1, d2, d3⟩ := k7.cells
          clear hb4
          go_wp2_with fail
          refine (C5.out _).mono ?_
          rintro e x5 ⟨rfl, hb5⟩
          have k5 := k5.below hb5
          have k6 := k6.below hb5
          have k7 := k7.below hb5
          have hb := hb.trans (hb5.mono hb.size)
          obtain ⟨a0, a1, a2, a3⟩ := k5.cells
          obtain ⟨b0, b1, b2, b3⟩ := k6.cells
          obtain ⟨d0, d1, d2, d3⟩ := k7.cells
          clear hb5
          go_wp2_with fail
          refine (HL.out _ hb).mono ?_
          rintro e x9 ⟨rfl, hb9⟩
          go_wp2
          go_ret
          exact ⟨rfl, hb9⟩
      case inr.inr =>
        clear t1 r3
        go_wp2_with fail
        refine (C1.out _).mono ?_
        rintro e x1 ⟨rfl, hb1⟩
        have k5 := k5.below hb1
        have k6 := k6.below hb1
        have k7 := k7.below hb1
        have hb := hb.trans (hb1.mono hb.size)
        obtain ⟨a0, a1, a2, a3⟩ := k5.cells
        obtain ⟨b0, b1, b2, b3⟩ := k6.cells
        obtain ⟨d0, d1, d2, d3⟩ := k7.cells
        clear hb1
        go_wp2_with fail
        refine (C2.out _).mono ?_
        rintro e x2 ⟨rfl, hb2⟩
        have k5 := k5.below hb2
        have k6 := k6.below hb2
        have k7 := k7.below hb2
        have hb := hb.trans (hb2.mono hb.size)
        obtain ⟨a0, a1, a2, a3⟩ := k5.cells
        obtain ⟨b0, b1, b2, b3⟩ := k6.cells
        obtain ⟨d0, d1, d2, d3⟩ := k7.cells
        clear hb2
        go_wp2_with fail
        refine (C3.out _).mono ?_
        rintro e x3 ⟨rfl, hb3⟩
        have k5 := k5.below hb3
        have k6 := k6.below hb3
        have k7 := k7.below hb3
        have hb := hb.trans (hb3.mono hb.size)
        obtain ⟨a0, a1, a2, a3⟩ := k5.cells
        obtain ⟨b0, b1, b2, b3⟩ := k6.cells
        obtain ⟨d0, d1, d2, d3⟩ := k7.cells
        clear hb3
        go_wp2_with fail
        refine (C4.out _).mono ?_
        rintro e x4 ⟨rfl, hb4⟩
        have k5 := k5.below hb4
        have k6 := k6.below hb4
        have k7 := k7.below hb4
        have hb := hb.trans (hb4.mono hb.size)
        obtain ⟨a0, a1, a2, a3⟩ := k5.cells
        obtain ⟨b0, b1, b2, b3⟩ := k6.cells
        obtain ⟨d0, d1, d2, d3⟩ := k7.cells
        clear hb4
        go_wp2_with fail
        refine (HL.out _ hb).mono ?_
        rintro e x9 ⟨rfl, hb9⟩
        go_wp2
        go_ret
        exact ⟨rfl, hb9⟩
end Go.Proofs.YtinhedegbaegnaaDoor
