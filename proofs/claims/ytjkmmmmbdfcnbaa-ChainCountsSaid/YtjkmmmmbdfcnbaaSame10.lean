/-
  Layer 10: the answer's sameness of properties, dependencies and projects. Own work.
-/
import Derived.Test.YtjkmmmmbdfcnbaaMem10
namespace Go.Proofs.Ytjkmmmmbdfcnbaa
set_option linter.unusedVariables false
set_option linter.unusedSimpArgs false
open Go.RowKit

theorem below_drewN {B : Nat} {a w : World} (h : Below B a w) (n : Nat) : Below B a (w.drewN n) := ⟨h.os, h.tape, h.output, h.size, h.block⟩
theorem eqI_pr (x y : Pr) (d : Nat) (w : World) : (Op.equalIn (d + 2) 36 (.agg #[.string x.n, .string x.v]) (.agg #[.string y.n, .string y.v])).run Try.prog w = .ok (samePr x y) w := by
  have u3 := Try.underlying9
  have a3 := Try.isAgg9
  have z3 := Try.sizeOf9
  have hS : Try.prog.underlying 36 = some (.struct (Try.prog.fieldsOf 36)) := by kernel_rfl
  have hp : Try.prog.stoodInHeld 36 = false := by kernel_rfl
  rw [run_equalIn_agg w (d + 1) 36 _ _ hS hp]
  simp only [Program.fieldsOf, Try.underlying36]
  go_simp
  unfold samePr eqS
  by_cases h1 : x.n.toList = y.n.toList <;> by_cases h2 : x.v.toList = y.v.toList <;> simp [h1, h2]
theorem neq_pr (x y : Pr) (w : World) : (binOp .neq 36 (.agg #[.string x.n, .string x.v]) (.agg #[.string y.n, .string y.v])).run Try.prog w = .ok (.bool (!(samePr x y))) w := by
  rw [run_neq_struct, show (10000 : Nat) = 9998 + 2 from rfl, eqI_pr]; rfl
theorem eqI_ix (x y : Ix) (d : Nat) (w : World) : (Op.equalIn (d + 2) 57 (.agg #[.string x.g, .string x.a]) (.agg #[.string y.g, .string y.a])).run Try.prog w = .ok (sameIx x y) w := by
  have u3 := Try.underlying9
  have a3 := Try.isAgg9
  have z3 := Try.sizeOf9
  have hS : Try.prog.underlying 57 = some (.struct (Try.prog.fieldsOf 57)) := by kernel_rfl
  have hp : Try.prog.stoodInHeld 57 = false := by kernel_rfl
  rw [run_equalIn_agg w (d + 1) 57 _ _ hS hp]
  simp only [Program.fieldsOf, Try.underlying57]
  go_simp
  unfold sameIx eqS
  by_cases h1 : x.g.toList = y.g.toList <;> by_cases h2 : x.a.toList = y.a.toList <;> simp [h1, h2]
theorem neq_ix (x y : Ix) (w : World) : (binOp .neq 57 (.agg #[.string x.g, .string x.a]) (.agg #[.string y.g, .string y.a])).run Try.prog w = .ok (.bool (!(sameIx x y))) w := by
  rw [run_neq_struct, show (10000 : Nat) = 9998 + 2 from rfl, eqI_ix]; rfl
def BoolQ (b : Bool) (w : World) (e : Ending) (w' : World) : Prop := e = .returned (.bool b) ∧ Below w.heap.size w w'
theorem SameProps_any (va vb : Value) (l m : List Pr) (w : World) (ha : RdPs w va l) (hb : RdPs w vb m) :
    Calls Try.prog 22 #[va, vb] w (BoolQ (sameL samePr l m) w) := by
  obtain ⟨aa, ac, rfl⟩ := RdSl.shape ha
  obtain ⟨ba, bc, rfl⟩ := RdSl.shape hb
  have hla := RdSl.len ha
  have hlb := RdSl.len hb
  have hlaI : (l.length : Int) ≤ 9223372036854775807 := by omega
  have hlbI : (m.length : Int) ≤ 9223372036854775807 := by omega
  have HA := Lib.hid ha
  have HBB := Lib.hid hb
  clear ha hb
  go_enter Try.func22, Try.ntmps22
  by_cases hne : l.length = m.length
  case neg =>
    have HNE := Lib.hid hne
    have hneI : ((l.length : Int) != (m.length : Int)) = true := by simpa using fun h => hne (by omega)
    clear hne
    go_wp2
    go_ret
    exact ⟨ret_bool (sameL_len HNE.out).symm, Below.refl _ _⟩
  have HEQ := Lib.hid hne
  rw [← hne]
  rw [← hne] at HBB
  clear hne
  go_wp2_with fail
  go_loopw [13] (fun i wr => ∃ k : Nat, k ≤ l.length ∧ i = .int .i64 k ∧ (∀ (i : Nat) x y, i < k → l[i]? = some x → m[i]? = some y → samePr x y = true) ∧ Below w.heap.size w wr) (fun i _ => l.length - (intOf i).toNat)
  case atStart => exact ⟨0, by omega, rfl, (fun i x y h => absurd h (by omega)), Below.refl _ _⟩
  case round =>
    obtain ⟨k, hk, rfl, hall, hbw⟩ := hrel
    have HALL := Lib.hid hall
    have HB := Lib.hid hbw
    clear hall
    by_cases hlt : k < l.length
    · obtain ⟨x, hx⟩ : ∃ x, l[k]? = some x := ⟨_, List.getElem?_eq_getElem hlt⟩
      obtain ⟨y, hy⟩ : ∃ y, m[k]? = some y := ⟨_, List.getElem?_eq_getElem (by rw [← HEQ.out]; exact hlt)⟩
      obtain ⟨a1, e1, p0, p1⟩ := RdSl.elem (HA.out.below hbw (Nat.le_refl _)) hx
      subst e1
      obtain ⟨b1, e1, q0, q1⟩ := RdSl.elem (HBB.out.below hbw (Nat.le_refl _)) hy
      subst e1
      have HX := Lib.hid hx
      have HY := Lib.hid hy
      have hnq := fun w => neq_pr x y w
      have hkI : (k : Int) < (l.length : Int) := by omega
      generalize hs : samePr x y = s at hnq
      have HS := Lib.hid hs
      clear hx hy hbw hs
      go_upto_region 6 with fail
      go_quiet (fail)
      clear p0 p1 q0 q1 hnq
      cases s
      · go_wp2
        go_ret
        exact ⟨ret_bool (sameL_no HX.out HY.out HS.out).symm, below_drewN HB.out _⟩
      · go_wp2
        go_roundw
        case rel => exact ⟨k + 1, by omega, by go_num, (fun i a b hi ha hb => by
          by_cases e : i = k
          · subst e; rw [HX.out] at ha; rw [HY.out] at hb; cases ha; cases hb; exact HS.out
          · exact HALL.out i a b (by omega) ha hb), below_drewN HB.out _⟩
        case measure => simp [intOf]; omega
    · have hle : (l.length : Int) ≤ k := by omega
      have hke : k = l.length := by omega
      have HKE := Lib.hid hke
      clear hke
      go_wp2
      go_ret
      exact ⟨ret_bool (sameL_yes HEQ.out fun i x y hx hy => HALL.out i x y (by rw [HKE.out]; exact (List.getElem?_eq_some_iff.1 hx).1) hx hy).symm, HB.out⟩
set_option maxRecDepth 100000 in
set_option maxHeartbeats 4000000 in
theorem SameDep_any (x y : Dp) (va vb : Value) (w : World) (ha : RdXs w va x.ex) (hb : RdXs w vb y.ex) :
    Calls Try.prog 25 #[dpV x va, dpV y vb] w (BoolQ (sameDp x y) w) := by
  obtain ⟨ea, ec, rfl⟩ := RdSl.shape ha
  obtain ⟨eb, ec', rfl⟩ := RdSl.shape hb
  have hla := RdSl.len ha
  have hlb := RdSl.len hb
  obtain ⟨g, a, v, t, c, sc, op, ex⟩ := x
  obtain ⟨g', a', v', t', c', sc', op', ex'⟩ := y
  simp only at ha hb hla hlb ⊢
  have hlaI : (ex.length : Int) ≤ 9223372036854775807 := by omega
  have hlbI : (ex'.length : Int) ≤ 9223372036854775807 := by omega
  unfold dpV
  simp only
  have hb0 : Below w.heap.size w ((w.alloc (.cells #[.string g, .string a, .string v, .string t, .string c, .int .i64 sc, .int .i64 op, .slice ea ex.length ec] 34)).alloc (.cells #[.string g', .string a', .string v', .string t', .string c', .int .i64 sc', .int .i64 op', .slice eb ex'.length ec'] 34)) := ((Below.refl w.heap.size w).alloc (Nat.le_refl _) _).alloc (by simp) _
  have h1 : ((w.alloc (.cells #[.string g, .string a, .string v, .string t, .string c, .int .i64 sc, .int .i64 op, .slice ea ex.length ec] 34)).alloc (.cells #[.string g', .string a', .string v', .string t', .string c', .int .i64 sc', .int .i64 op', .slice eb ex'.length ec'] 34)).heap[w.heap.size]? = some (.cells #[.string g, .string a, .string v, .string t, .string c, .int .i64 sc, .int .i64 op, .slice ea ex.length ec] 34 (0, 0)) := (Below.heap_alloc _ _ _ (by simp)).trans (heap_alloc_new w _)
  have h2 : ((w.alloc (.cells #[.string g, .string a, .string v, .string t, .string c, .int .i64 sc, .int .i64 op, .slice ea ex.length ec] 34)).alloc (.cells #[.string g', .string a', .string v', .string t', .string c', .int .i64 sc', .int .i64 op', .slice eb ex'.length ec'] 34)).heap[w.heap.size + 1]? = some (.cells #[.string g', .string a', .string v', .string t', .string c', .int .i64 sc', .int .i64 op', .slice eb ex'.length ec'] 34 (0, 0)) := by
    have := heap_alloc_new (w.alloc (.cells #[.string g, .string a, .string v, .string t, .string c, .int .i64 sc, .int .i64 op, .slice ea ex.length ec] 34)) (.cells #[.string g', .string a', .string v', .string t', .string c', .int .i64 sc', .int .i64 op', .slice eb ex'.length ec'] 34)
    simpa using this
  have HA := Lib.hid (ha.below hb0 (Nat.le_refl _))
  have HBB := Lib.hid (hb.below hb0 (Nat.le_refl _))
  have HB0 := Lib.hid hb0
  clear ha hb hb0
  go_enter Try.func25, Try.ntmps25
  go_upto_region 1 with fail
  generalize ((w.alloc (.cells #[.string g, .string a, .string v, .string t, .string c, .int .i64 sc, .int .i64 op, .slice ea ex.length ec] 34)).alloc (.cells #[.string g', .string a', .string v', .string t', .string c', .int .i64 sc', .int .i64 op', .slice eb ex'.length ec'] 34)) = w1 at h1 h2 HA HBB HB0 ⊢
  obtain ⟨D', hD'⟩ : ∃ b, b = w.heap.size + 1 := ⟨_, rfl⟩
  rw [← hD'] at h2
  simp only [← hD']
  clear hD'
  generalize w.heap.size = D at h1 ⊢
  have x0 : w1.cell? ⟨D, 0, none⟩ = some (.string g) := by rw [cell_of_row w1 D 0 _ _ (0, 0) h1]; rfl
  have x1 : w1.cell? ⟨D, 1, none⟩ = some (.string a) := by rw [cell_of_row w1 D 1 _ _ (0, 0) h1]; rfl
  have x2 : w1.cell? ⟨D, 2, none⟩ = some (.string v) := by rw [cell_of_row w1 D 2 _ _ (0, 0) h1]; rfl
  have x3 : w1.cell? ⟨D, 3, none⟩ = some (.string t) := by rw [cell_of_row w1 D 3 _ _ (0, 0) h1]; rfl
  have x4 : w1.cell? ⟨D, 4, none⟩ = some (.string c) := by rw [cell_of_row w1 D 4 _ _ (0, 0) h1]; rfl
  have x5 : w1.cell? ⟨D, 5, none⟩ = some (.int .i64 sc) := by rw [cell_of_row w1 D 5 _ _ (0, 0) h1]; rfl
  have x6 : w1.cell? ⟨D, 6, none⟩ = some (.int .i64 op) := by rw [cell_of_row w1 D 6 _ _ (0, 0) h1]; rfl
  have x7 : w1.cell? ⟨D, 7, none⟩ = some (.slice ea ex.length ec) := by rw [cell_of_row w1 D 7 _ _ (0, 0) h1]; rfl
  have y0 : w1.cell? ⟨D', 0, none⟩ = some (.string g') := by rw [cell_of_row w1 D' 0 _ _ (0, 0) h2]; rfl
  have y1 : w1.cell? ⟨D', 1, none⟩ = some (.string a') := by rw [cell_of_row w1 D' 1 _ _ (0, 0) h2]; rfl
  have y2 : w1.cell? ⟨D', 2, none⟩ = some (.string v') := by rw [cell_of_row w1 D' 2 _ _ (0, 0) h2]; rfl
  have y3 : w1.cell? ⟨D', 3, none⟩ = some (.string t') := by rw [cell_of_row w1 D' 3 _ _ (0, 0) h2]; rfl
  have y4 : w1.cell? ⟨D', 4, none⟩ = some (.string c') := by rw [cell_of_row w1 D' 4 _ _ (0, 0) h2]; rfl
  have y5 : w1.cell? ⟨D', 5, none⟩ = some (.int .i64 sc') := by rw [cell_of_row w1 D' 5 _ _ (0, 0) h2]; rfl
  have y6 : w1.cell? ⟨D', 6, none⟩ = some (.int .i64 op') := by rw [cell_of_row w1 D' 6 _ _ (0, 0) h2]; rfl
  have y7 : w1.cell? ⟨D', 7, none⟩ = some (.slice eb ex'.length ec') := by rw [cell_of_row w1 D' 7 _ _ (0, 0) h2]; rfl
  clear h1 h2
  by_cases hq : g = g'
  case neg =>
    have hL : ¬ g.toList = g'.toList := fun h => hq (bytes_eq10 h)
    have HL := Lib.hid hL
    go_wp2
    go_ret
    exact ⟨ret_bool (by unfold sameDp; simp only; rw [show eqS g g' = false by unfold eqS; simpa using HL.out]; simp), HB0.out⟩
  subst hq
  by_cases hq : a = a'
  case neg =>
    have hL : ¬ a.toList = a'.toList := fun h => hq (bytes_eq10 h)
    have HL := Lib.hid hL
    go_wp2
    go_ret
    exact ⟨ret_bool (by unfold sameDp; simp only; rw [show eqS a a' = false by unfold eqS; simpa using HL.out]; simp), HB0.out⟩
  subst hq
  by_cases hq : v = v'
  case neg =>
    have hL : ¬ v.toList = v'.toList := fun h => hq (bytes_eq10 h)
    have HL := Lib.hid hL
    go_wp2
    go_ret
    exact ⟨ret_bool (by unfold sameDp; simp only; rw [show eqS v v' = false by unfold eqS; simpa using HL.out]; simp), HB0.out⟩
  subst hq
  by_cases hq : t = t'
  case neg =>
    have hL : ¬ t.toList = t'.toList := fun h => hq (bytes_eq10 h)
    have HL := Lib.hid hL
    go_wp2
    go_ret
    exact ⟨ret_bool (by unfold sameDp; simp only; rw [show eqS t t' = false by unfold eqS; simpa using HL.out]; simp), HB0.out⟩
  subst hq
  by_cases hq : c = c'
  case neg =>
    have hL : ¬ c.toList = c'.toList := fun h => hq (bytes_eq10 h)
    have HL := Lib.hid hL
    go_wp2
    go_ret
    exact ⟨ret_bool (by unfold sameDp; simp only; rw [show eqS c c' = false by unfold eqS; simpa using HL.out]; simp), HB0.out⟩
  subst hq
  by_cases hq : sc = sc'
  case neg =>
    have HL := Lib.hid hq
    have hL : (sc != sc') = true := by simpa using hq
    clear hq
    go_wp2
    go_ret
    exact ⟨ret_bool (by unfold sameDp; simp only; rw [show (sc == sc') = false by simpa using HL.out]; simp), HB0.out⟩
  subst hq
  by_cases hq : op = op'
  case neg =>
    have HL := Lib.hid hq
    have hL : (op != op') = true := by simpa using hq
    clear hq
    go_wp2
    go_ret
    exact ⟨ret_bool (by unfold sameDp; simp only; rw [show (op == op') = false by simpa using HL.out]; simp), HB0.out⟩
  subst hq
  by_cases hne : ex.length = ex'.length
  case neg =>
    have HNE := Lib.hid hne
    have hneI : ((ex.length : Int) != (ex'.length : Int)) = true := by simpa using fun h => hne (by omega)
    clear hne
    go_wp2
    go_ret
    exact ⟨ret_bool (by unfold sameDp; simp only; rw [sameL_len HNE.out]; simp), HB0.out⟩
  have HEQ := Lib.hid hne
  rw [← hne] at HBB y7
  rw [← hne]
  clear hne
  have HX7 := Lib.hid x7
  have HY7 := Lib.hid y7
  go_wp2_with fail
  clear x0 x1 x2 x3 x4 x5 x6 x7 y0 y1 y2 y3 y4 y5 y6 y7
  go_loopw [65] (fun i wr => ∃ k : Nat, k ≤ ex.length ∧ i = .int .i64 k ∧ (∀ (i : Nat) x y, i < k → ex[i]? = some x → ex'[i]? = some y → sameIx x y = true) ∧ Below w1.heap.size w1 wr) (fun i _ => ex.length - (intOf i).toNat)
  case atStart => exact ⟨0, by omega, rfl, (fun i x y h => absurd h (by omega)), Below.refl _ _⟩
  case round =>
    obtain ⟨k, hk, rfl, hall, hbw⟩ := hrel
    have HALL := Lib.hid hall
    have HB := Lib.hid hbw
    clear hall
    by_cases hlt : k < ex.length
    · obtain ⟨x, hx⟩ : ∃ x, ex[k]? = some x := ⟨_, List.getElem?_eq_getElem hlt⟩
      obtain ⟨y, hy⟩ : ∃ y, ex'[k]? = some y := ⟨_, List.getElem?_eq_getElem (by rw [← HEQ.out]; exact hlt)⟩
      obtain ⟨a1, e1, p0, p1⟩ := RdSl.elem (HA.out.below hbw (Nat.le_refl _)) hx
      subst e1
      obtain ⟨b1, e1, q0, q1⟩ := RdSl.elem (HBB.out.below hbw (Nat.le_refl _)) hy
      subst e1
      have x7 := (hbw.cell (World.block_lt_of_cell? w1 _ HX7.out)).trans HX7.out
      have y7 := (hbw.cell (World.block_lt_of_cell? w1 _ HY7.out)).trans HY7.out
      have HX := Lib.hid hx
      have HY := Lib.hid hy
      have hnq := fun w => neq_ix x y w
      have hkI : (k : Int) < (ex.length : Int) := by omega
      generalize hs : sameIx x y = s at hnq
      have HS := Lib.hid hs
      clear hx hy hbw hs
      go_upto_region 6 with fail
      go_quiet (fail)
      clear p0 p1 q0 q1 hnq x7 y7
      cases s
      · go_wp2
        go_ret
        exact ⟨ret_bool (by unfold sameDp; simp only; rw [sameL_no HX.out HY.out HS.out]; simp), HB0.out.trans ((below_drewN HB.out _).mono HB0.out.size)⟩
      · go_wp2
        go_roundw
        case rel => exact ⟨k + 1, by omega, by go_num, (fun i a b hi ha hb => by
          by_cases e : i = k
          · subst e; rw [HX.out] at ha; rw [HY.out] at hb; cases ha; cases hb; exact HS.out
          · exact HALL.out i a b (by omega) ha hb), below_drewN HB.out _⟩
        case measure => simp [intOf]; omega
    · have hle : (ex.length : Int) ≤ k := by omega
      have hke : k = ex.length := by omega
      have HKE := Lib.hid hke
      clear hke
      go_wp2
      go_ret
      exact ⟨ret_bool (by unfold sameDp; simp only; rw [sameL_yes HEQ.out fun i x y hx hy => HALL.out i x y (by rw [HKE.out]; exact (List.getElem?_eq_some_iff.1 hx).1) hx hy]; simp [eqS_self]), HB0.out.trans (HB.out.mono HB0.out.size)⟩
end Go.Proofs.Ytjkmmmmbdfcnbaa
