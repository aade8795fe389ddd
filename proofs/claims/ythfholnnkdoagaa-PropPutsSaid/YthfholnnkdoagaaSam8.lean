/-
  Layer 8: the answer's sameness of properties (cut out of layer 10's). Own work.
-/
import Derived.Test.YthfholnnkdoagaaMem10
namespace Go.Proofs.Ythfholnnkdoagaa
set_option linter.unusedVariables false
set_option linter.unusedSimpArgs false
open Go.RowKit

theorem below_drewN {B : Nat} {a w : World} (h : Below B a w) (n : Nat) : Below B a (w.drewN n) := ⟨h.os, h.tape, h.output, h.size, h.block⟩
theorem eqI_pr (x y : Pr) (d : Nat) (w : World) : (Op.equalIn (d + 2) 33 (.agg #[.string x.n, .string x.v]) (.agg #[.string y.n, .string y.v])).run Try.prog w = .ok (samePr x y) w := by
  have u3 := Try.underlying9
  have a3 := Try.isAgg9
  have z3 := Try.sizeOf9
  have hS : Try.prog.underlying 33 = some (.struct (Try.prog.fieldsOf 33)) := by kernel_rfl
  have hp : Try.prog.stoodInHeld 33 = false := by kernel_rfl
  rw [run_equalIn_agg w (d + 1) 33 _ _ hS hp]
  simp only [Program.fieldsOf, Try.underlying33]
  go_simp
  unfold samePr eqS
  by_cases h1 : x.n.toList = y.n.toList <;> by_cases h2 : x.v.toList = y.v.toList <;> simp [h1, h2]
theorem neq_pr (x y : Pr) (w : World) : (binOp .neq 33 (.agg #[.string x.n, .string x.v]) (.agg #[.string y.n, .string y.v])).run Try.prog w = .ok (.bool (!(samePr x y))) w := by
  rw [run_neq_struct, show (10000 : Nat) = 9998 + 2 from rfl, eqI_pr]; rfl
def BoolQ (b : Bool) (w : World) (e : Ending) (w' : World) : Prop := e = .returned (.bool b) ∧ Below w.heap.size w w'
theorem SameProps_any (va vb : Value) (l m : List Pr) (w : World) (ha : RdPs w va l) (hb : RdPs w vb m) :
    Calls Try.prog 19 #[va, vb] w (BoolQ (sameL samePr l m) w) := by
  obtain ⟨aa, ac, rfl⟩ := RdSl.shape ha
  obtain ⟨ba, bc, rfl⟩ := RdSl.shape hb
  have hla := RdSl.len ha
  have hlb := RdSl.len hb
  have hlaI : (l.length : Int) ≤ 9223372036854775807 := by omega
  have hlbI : (m.length : Int) ≤ 9223372036854775807 := by omega
  have HA := Lib.hid ha
  have HBB := Lib.hid hb
  clear ha hb
  go_enter Try.func19, Try.ntmps19
  by_cases hne : l.length = m.length
  case neg =>
    have HNE := Lib.hid hne
    have hneI : ((l.length : Int) != (m.length : Int)) = true := by simpa using fun h => hne (by omega)
    clear hne
    go_wp2
    go_ret
    exact ⟨ret_bool (sameL_len HNE.out).symm, Below.refl _ _⟩
  have HEQ := Lib.hid hne
  rw [← hne]
  rw [← hne] at HBB
  clear hne
  go_wp2_with fail
  go_loopw [13] (fun i wr => ∃ k : Nat, k ≤ l.length ∧ i = .int .i64 k ∧ (∀ (i : Nat) x y, i < k → l[i]? = some x → m[i]? = some y → samePr x y = true) ∧ Below w.heap.size w wr) (fun i _ => l.length - (intOf i).toNat)
  case atStart => exact ⟨0, by omega, rfl, (fun i x y h => absurd h (by omega)), Below.refl _ _⟩
  case round =>
    obtain ⟨k, hk, rfl, hall, hbw⟩ := hrel
    have HALL := Lib.hid hall
    have HB := Lib.hid hbw
    clear hall
    by_cases hlt : k < l.length
    · obtain ⟨x, hx⟩ : ∃ x, l[k]? = some x := ⟨_, List.getElem?_eq_getElem hlt⟩
      obtain ⟨y, hy⟩ : ∃ y, m[k]? = some y := ⟨_, List.getElem?_eq_getElem (by rw [← HEQ.out]; exact hlt)⟩
      obtain ⟨a1, e1, p0, p1⟩ := RdSl.elem (HA.out.below hbw (Nat.le_refl _)) hx
      subst e1
      obtain ⟨b1, e1, q0, q1⟩ := RdSl.elem (HBB.out.below hbw (Nat.le_refl _)) hy
      subst e1
      have HX := Lib.hid hx
      have HY := Lib.hid hy
      have hnq := fun w => neq_pr x y w
      have hkI : (k : Int) < (l.length : Int) := by omega
      generalize hs : samePr x y = s at hnq
      have HS := Lib.hid hs
      clear hx hy hbw hs
      go_upto_region 6 with fail
      go_quiet (fail)
      clear p0 p1 q0 q1 hnq
      cases s
      · go_wp2
        go_ret
        exact ⟨ret_bool (sameL_no HX.out HY.out HS.out).symm, below_drewN HB.out _⟩
      · go_wp2
        go_roundw
        case rel => exact ⟨k + 1, by omega, by go_num, (fun i a b hi ha hb => by
          by_cases e : i = k
          · subst e; rw [HX.out] at ha; rw [HY.out] at hb; cases ha; cases hb; exact HS.out
          · exact HALL.out i a b (by omega) ha hb), below_drewN HB.out _⟩
        case measure => simp [intOf]; omega
    · have hle : (l.length : Int) ≤ k := by omega
      have hke : k = l.length := by omega
      have HKE := Lib.hid hke
      clear hke
      go_wp2
      go_ret
      exact ⟨ret_bool (sameL_yes HEQ.out fun i x y hx hy => HALL.out i x y (by rw [HKE.out]; exact (List.getElem?_eq_some_iff.1 hx).1) hx hy).symm, HB.out⟩
end Go.Proofs.Ythfholnnkdoagaa
