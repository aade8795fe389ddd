/-
  Layer 3: whether two rows of attributes are the same. Own work.
-/
import Derived.Test.YtpbkidmdfibaoaaGreatDoorMem3
import Derived.Laws.StructEq
import Derived.Deep.RegionHeld3
namespace Go.Proofs.YtpbkidmdfibaoaaGreatDoor
set_option linter.unusedVariables false
set_option linter.unusedSimpArgs false
open Go.RowKit

/-- are the two the same? -/
noncomputable def eqT {α : Type} (a b : α) : Bool := @decide (a = b) (Classical.propDecidable _)
theorem eqT_yes {α : Type} {a b : α} (h : a = b) : eqT a b = true := by unfold eqT; exact @decide_eq_true _ (Classical.propDecidable _) h
theorem eqT_no {α : Type} {a b : α} (h : ¬ a = b) : eqT a b = false := by unfold eqT; exact @decide_eq_false _ (Classical.propDecidable _) h
theorem eqT_self {α : Type} (a : α) : eqT a a = true := eqT_yes rfl
theorem eqT_comm {α : Type} (a b : α) : eqT a b = eqT b a := by
  by_cases h : a = b
  · rw [eqT_yes h, eqT_yes h.symm]
  · rw [eqT_no h, eqT_no fun e => h e.symm]
set_option maxHeartbeats 1000000 in
theorem neq_at (p q : At2) (w : World) : (binOp .neq 68 (.agg #[.string (str p.1), .string (str p.2)]) (.agg #[.string (str q.1), .string (str q.2)])).run Tryz.prog w = .ok (.bool (!eqT p q)) w := by
  have u3 := Tryz.underlying9
  have a3 := Tryz.isAgg9
  have z3 := Tryz.sizeOf9
  have hS : Tryz.prog.underlying 68 = some (.struct (Tryz.prog.fieldsOf 68)) := by kernel_rfl
  have hp : Tryz.prog.stoodInHeld 68 = false := by kernel_rfl
  rw [run_neq_struct, show (10000 : Nat) = 9998 + 1 + 1 from rfl, run_equalIn_agg w (9998 + 1) 68 _ _ hS hp]
  obtain ⟨a, b⟩ := p
  obtain ⟨c, d⟩ := q
  dsimp only
  by_cases h1 : a = c
  · subst h1
    by_cases h2 : b = d
    · subst h2
      rw [eqT_self]
      simp only [Program.fieldsOf, Tryz.underlying68]
      go_simp
    · have g2 : ((str b).toList == (str d).toList) = false := by rw [beq_eq_false_iff_ne]; intro h; exact h2 (strEq.1 h)
      rw [eqT_no (fun h => h2 (Prod.mk.inj h).2)]
      simp only [Program.fieldsOf, Tryz.underlying68]
      go_simp
  · have g1 : ((str a).toList == (str c).toList) = false := by rw [beq_eq_false_iff_ne]; intro h; exact h1 (strEq.1 h)
    rw [eqT_no (fun h => h1 (Prod.mk.inj h).1)]
    simp only [Program.fieldsOf, Tryz.underlying68]
    go_simp
set_option maxRecDepth 100000 in
set_option maxHeartbeats 1000000 in
theorem SameAttrs_any (va vb : Value) (l m : List At2) (w : World) (ha : RdAs w va l) (hb : RdAs w vb m) :
    Calls Tryz.prog 26 #[va, vb] w fun e w' => e = .returned (.bool (eqT l m)) ∧ Below w.heap.size w w' := by
  obtain ⟨aa, ac, rfl⟩ := RdSl.shape ha
  obtain ⟨ba, bc, rfl⟩ := RdSl.shape hb
  have hla := RdSl.len ha
  have hlaI : (l.length : Int) ≤ 9223372036854775807 := by omega
  have HA := Lib.hid ha
  have HBB := Lib.hid hb
  clear ha hb
  by_cases hlm : l.length = m.length
  case neg =>
    have HE := Lib.hid (show eqT l m = false from eqT_no fun h => hlm (by rw [h]))
    have hq : (((l.length : Nat) : Int) == ((m.length : Nat) : Int)) = false := by rw [beq_eq_false_iff_ne]; omega
    have hq2 : ¬ l.length = m.length := hlm
    go_enter Tryz.func26, Tryz.ntmps26
    go_wp2_with fail
    go_ret
    exact ⟨ret_bool HE.out.symm, Below.refl _ _⟩
  case pos =>
  have HLM := Lib.hid hlm
  rw [← hlm] at HBB ⊢
  clear hlm
  go_enter Tryz.func26, Tryz.ntmps26
  go_wp2_with fail
  go_loopw [13] (fun i wr => ∃ k : Nat, k ≤ l.length ∧ i = .int .i64 k ∧ Below w.heap.size w wr ∧ l.take k = m.take k) (fun i _ => l.length - (intOf i).toNat)
  case atStart => exact ⟨0, by omega, rfl, Below.refl _ _, rfl⟩
  case round =>
    obtain ⟨k, hk, rfl, hbw, htk⟩ := hrel
    have HB := Lib.hid hbw
    have HTK := Lib.hid htk
    clear htk
    by_cases hlt : k < l.length
    · obtain ⟨x, hx⟩ : ∃ x, l[k]? = some x := ⟨_, List.getElem?_eq_getElem hlt⟩
      obtain ⟨y, hy⟩ : ∃ y, m[k]? = some y := ⟨_, List.getElem?_eq_getElem (by rw [← HLM.out]; exact hlt)⟩
      obtain ⟨a1, e1, p0, p1⟩ := RdSl.elem (HA.out.below hbw (Nat.le_refl _)) hx
      subst e1
      obtain ⟨b1, e1, q0, q1⟩ := RdSl.elem (HBB.out.below hbw (Nat.le_refl _)) hy
      subst e1
      have hkI : (k : Int) < (l.length : Int) := by omega
      have HX := Lib.hid hx
      have HY := Lib.hid hy
      have hnq := fun w => neq_at x y w
      by_cases hxy : x = y
      · rw [show (!eqT x y) = false by rw [eqT_yes hxy]; rfl] at hnq
        have HN := Lib.hid (show l.take (k + 1) = m.take (k + 1) by rw [take_snoc _ k x HX.out, take_snoc _ k y HY.out, HTK.out, hxy])
        clear hx hy hbw hxy
        go_upto_region 6 with fail
        go_quiet (fail)
        clear p0 p1 q0 q1 hnq
        go_wp2
        go_roundw
        case rel => exact ⟨k + 1, by omega, by go_num, below_drewN HB.out _, HN.out⟩
        case measure => simp [intOf]; omega
      · rw [show (!eqT x y) = true by rw [eqT_no hxy]; rfl] at hnq
        have HE := Lib.hid (show eqT l m = false from eqT_no fun h => hxy (by rw [h, HY.out] at hx; exact (Option.some.inj hx).symm))
        clear hx hy hbw hxy
        go_upto_region 6 with fail
        go_quiet (fail)
        clear p0 p1 q0 q1 hnq
        go_wp2
        go_ret
        exact ⟨ret_bool HE.out.symm, below_drewN HB.out _⟩
    · have hle : (l.length : Int) ≤ k := by omega
      have HE := Lib.hid (show eqT l m = true from eqT_yes (by
        have := HTK.out
        rw [List.take_of_length_le (by omega), List.take_of_length_le (by rw [← HLM.out]; omega)] at this
        exact this))
      go_wp2
      go_ret
      exact ⟨ret_bool HE.out.symm, HB.out⟩
end Go.Proofs.YtpbkidmdfibaoaaGreatDoor
