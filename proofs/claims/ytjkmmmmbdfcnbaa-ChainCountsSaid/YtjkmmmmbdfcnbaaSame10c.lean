/-
  Layer 10: the answer's sameness of projects. Own work.
-/
import Derived.Test.YtjkmmmmbdfcnbaaSame10b
namespace Go.Proofs.Ytjkmmmmbdfcnbaa
set_option linter.unusedVariables false
set_option linter.unusedSimpArgs false
open Go.RowKit

def sameG (a b c a' b' c' : ByteArray) : Bool := eqS a a' && (eqS b b' && eqS c c')
theorem eqI_gav (a b c a' b' c' : ByteArray) (d : Nat) (w : World) : (Op.equalIn (d + 2) 23 (.agg #[.string a, .string b, .string c]) (.agg #[.string a', .string b', .string c'])).run Try.prog w = .ok (sameG a b c a' b' c') w := by
  have u3 := Try.underlying9
  have a3 := Try.isAgg9
  have z3 := Try.sizeOf9
  have hS : Try.prog.underlying 23 = some (.struct (Try.prog.fieldsOf 23)) := by kernel_rfl
  have hp : Try.prog.stoodInHeld 23 = false := by kernel_rfl
  rw [run_equalIn_agg w (d + 1) 23 _ _ hS hp]
  simp only [Program.fieldsOf, Try.underlying23]
  go_simp
  unfold sameG eqS
  by_cases h1 : a.toList = a'.toList <;> by_cases h2 : b.toList = b'.toList <;> by_cases h3 : c.toList = c'.toList <;> simp [h1, h2, h3]
theorem eq_gav (a b c a' b' c' : ByteArray) (w : World) : (binOp .eql 23 (.agg #[.string a, .string b, .string c]) (.agg #[.string a', .string b', .string c'])).run Try.prog w = .ok (.bool (sameG a b c a' b' c')) w := by
  rw [run_eql_struct, show (10000 : Nat) = 9998 + 2 from rfl, eqI_gav]; rfl
theorem samePm_is (x y : Pm) : samePm x y = (x.hp == y.hp && (sameG x.pg x.pa x.pv y.pg y.pa y.pv && (eqS x.g y.g && (eqS x.a y.a && (eqS x.v y.v && (eqS x.pk y.pk && (sameL samePr x.ps y.ps && (sameL sameDp x.ms y.ms && sameL sameDp x.ds y.ds)))))))) := by
  unfold samePm sameG
  simp only [Bool.and_assoc]
set_option maxRecDepth 100000 in
set_option maxHeartbeats 8000000 in
theorem Same_any (x y : Pm) (vp vm vd vp' vm' vd' : Value) (w : World) (ha : RdP w vp vm vd x) (hb : RdP w vp' vm' vd' y) :
    Calls Try.prog 9 #[pmV vp vm vd x, pmV vp' vm' vd' y] w (BoolQ (samePm x y) w) := by
  rw [samePm_is]
  obtain ⟨e8, k8, rfl⟩ := RdSl.shape ha.p
  obtain ⟨e9, k9, rfl⟩ := RdSl.shape ha.m
  obtain ⟨e10, k10, rfl⟩ := RdSl.shape ha.d
  obtain ⟨e8', k8', rfl⟩ := RdSl.shape hb.p
  obtain ⟨e9', k9', rfl⟩ := RdSl.shape hb.m
  obtain ⟨e10', k10', rfl⟩ := RdSl.shape hb.d
  obtain ⟨hp, pg, pa, pv, g, a, v, pk, ps, ms, ds⟩ := x
  obtain ⟨hp', pg', pa', pv', g', a', v', pk', ps', ms', ds'⟩ := y
  simp only at ha hb ⊢
  unfold pmV
  simp only
  have hb0 : Below w.heap.size w ((w.alloc (.cells #[.bool hp, .string pg, .string pa, .string pv, .string g, .string a, .string v, .string pk, .slice e8 ps.length k8, .slice e9 ms.length k9, .slice e10 ds.length k10] 27)).alloc (.cells #[.bool hp', .string pg', .string pa', .string pv', .string g', .string a', .string v', .string pk', .slice e8' ps'.length k8', .slice e9' ms'.length k9', .slice e10' ds'.length k10'] 27)) := ((Below.refl w.heap.size w).alloc (Nat.le_refl _) _).alloc (by simp) _
  have h1 : ((w.alloc (.cells #[.bool hp, .string pg, .string pa, .string pv, .string g, .string a, .string v, .string pk, .slice e8 ps.length k8, .slice e9 ms.length k9, .slice e10 ds.length k10] 27)).alloc (.cells #[.bool hp', .string pg', .string pa', .string pv', .string g', .string a', .string v', .string pk', .slice e8' ps'.length k8', .slice e9' ms'.length k9', .slice e10' ds'.length k10'] 27)).heap[w.heap.size]? = some (.cells #[.bool hp, .string pg, .string pa, .string pv, .string g, .string a, .string v, .string pk, .slice e8 ps.length k8, .slice e9 ms.length k9, .slice e10 ds.length k10] 27 (0, 0)) := (Below.heap_alloc _ _ _ (by simp)).trans (heap_alloc_new w _)
  have h2 : ((w.alloc (.cells #[.bool hp, .string pg, .string pa, .string pv, .string g, .string a, .string v, .string pk, .slice e8 ps.length k8, .slice e9 ms.length k9, .slice e10 ds.length k10] 27)).alloc (.cells #[.bool hp', .string pg', .string pa', .string pv', .string g', .string a', .string v', .string pk', .slice e8' ps'.length k8', .slice e9' ms'.length k9', .slice e10' ds'.length k10'] 27)).heap[w.heap.size + 1]? = some (.cells #[.bool hp', .string pg', .string pa', .string pv', .string g', .string a', .string v', .string pk', .slice e8' ps'.length k8', .slice e9' ms'.length k9', .slice e10' ds'.length k10'] 27 (0, 0)) := by
    have := heap_alloc_new (w.alloc (.cells #[.bool hp, .string pg, .string pa, .string pv, .string g, .string a, .string v, .string pk, .slice e8 ps.length k8, .slice e9 ms.length k9, .slice e10 ds.length k10] 27)) (.cells #[.bool hp', .string pg', .string pa', .string pv', .string g', .string a', .string v', .string pk', .slice e8' ps'.length k8', .slice e9' ms'.length k9', .slice e10' ds'.length k10'] 27)
    simpa using this
  have HA := Lib.hid (ha.below hb0 (Nat.le_refl _))
  have HBB := Lib.hid (hb.below hb0 (Nat.le_refl _))
  have HB0 := Lib.hid hb0
  clear ha hb hb0
  go_enter Try.func9, Try.ntmps9
  go_upto_region 1 with fail
  generalize ((w.alloc (.cells #[.bool hp, .string pg, .string pa, .string pv, .string g, .string a, .string v, .string pk, .slice e8 ps.length k8, .slice e9 ms.length k9, .slice e10 ds.length k10] 27)).alloc (.cells #[.bool hp', .string pg', .string pa', .string pv', .string g', .string a', .string v', .string pk', .slice e8' ps'.length k8', .slice e9' ms'.length k9', .slice e10' ds'.length k10'] 27)) = w1 at h1 h2 HA HBB HB0 ⊢
  obtain ⟨D', hD'⟩ : ∃ b, b = w.heap.size + 1 := ⟨_, rfl⟩
  rw [← hD'] at h2
  simp only [← hD']
  clear hD'
  generalize w.heap.size = D at h1 ⊢
  have H1 := Lib.hid h1
  have H2 := Lib.hid h2
  have x0 : w1.cell? ⟨D, 0, none⟩ = some (.bool hp) := by rw [cell_of_row w1 D 0 _ _ (0, 0) h1]; rfl
  have x1 : w1.cell? ⟨D, 1, none⟩ = some (.string pg) := by rw [cell_of_row w1 D 1 _ _ (0, 0) h1]; rfl
  have x2 : w1.cell? ⟨D, 2, none⟩ = some (.string pa) := by rw [cell_of_row w1 D 2 _ _ (0, 0) h1]; rfl
  have x3 : w1.cell? ⟨D, 3, none⟩ = some (.string pv) := by rw [cell_of_row w1 D 3 _ _ (0, 0) h1]; rfl
  have x4 : w1.cell? ⟨D, 4, none⟩ = some (.string g) := by rw [cell_of_row w1 D 4 _ _ (0, 0) h1]; rfl
  have x5 : w1.cell? ⟨D, 5, none⟩ = some (.string a) := by rw [cell_of_row w1 D 5 _ _ (0, 0) h1]; rfl
  have x6 : w1.cell? ⟨D, 6, none⟩ = some (.string v) := by rw [cell_of_row w1 D 6 _ _ (0, 0) h1]; rfl
  have x7 : w1.cell? ⟨D, 7, none⟩ = some (.string pk) := by rw [cell_of_row w1 D 7 _ _ (0, 0) h1]; rfl
  have x8 : w1.cell? ⟨D, 8, none⟩ = some (.slice e8 ps.length k8) := by rw [cell_of_row w1 D 8 _ _ (0, 0) h1]; rfl
  have x9 : w1.cell? ⟨D, 9, none⟩ = some (.slice e9 ms.length k9) := by rw [cell_of_row w1 D 9 _ _ (0, 0) h1]; rfl
  have x10 : w1.cell? ⟨D, 10, none⟩ = some (.slice e10 ds.length k10) := by rw [cell_of_row w1 D 10 _ _ (0, 0) h1]; rfl
  have y0 : w1.cell? ⟨D', 0, none⟩ = some (.bool hp') := by rw [cell_of_row w1 D' 0 _ _ (0, 0) h2]; rfl
  have y1 : w1.cell? ⟨D', 1, none⟩ = some (.string pg') := by rw [cell_of_row w1 D' 1 _ _ (0, 0) h2]; rfl
  have y2 : w1.cell? ⟨D', 2, none⟩ = some (.string pa') := by rw [cell_of_row w1 D' 2 _ _ (0, 0) h2]; rfl
  have y3 : w1.cell? ⟨D', 3, none⟩ = some (.string pv') := by rw [cell_of_row w1 D' 3 _ _ (0, 0) h2]; rfl
  have y4 : w1.cell? ⟨D', 4, none⟩ = some (.string g') := by rw [cell_of_row w1 D' 4 _ _ (0, 0) h2]; rfl
  have y5 : w1.cell? ⟨D', 5, none⟩ = some (.string a') := by rw [cell_of_row w1 D' 5 _ _ (0, 0) h2]; rfl
  have y6 : w1.cell? ⟨D', 6, none⟩ = some (.string v') := by rw [cell_of_row w1 D' 6 _ _ (0, 0) h2]; rfl
  have y7 : w1.cell? ⟨D', 7, none⟩ = some (.string pk') := by rw [cell_of_row w1 D' 7 _ _ (0, 0) h2]; rfl
  have y8 : w1.cell? ⟨D', 8, none⟩ = some (.slice e8' ps'.length k8') := by rw [cell_of_row w1 D' 8 _ _ (0, 0) h2]; rfl
  have y9 : w1.cell? ⟨D', 9, none⟩ = some (.slice e9' ms'.length k9') := by rw [cell_of_row w1 D' 9 _ _ (0, 0) h2]; rfl
  have y10 : w1.cell? ⟨D', 10, none⟩ = some (.slice e10' ds'.length k10') := by rw [cell_of_row w1 D' 10 _ _ (0, 0) h2]; rfl
  clear h1 h2
  have hgv := fun w => eq_gav pg pa pv pg' pa' pv' w
  generalize hsg : sameG pg pa pv pg' pa' pv' = sg at hgv
  have HSG := Lib.hid hsg
  clear hsg
  cases hp <;> cases hp'
  case true.false | false.true =>
    go_wp2
    go_ret
    exact ⟨rfl, HB0.out⟩
  all_goals
    cases sg
    case false =>
      go_wp2
      go_ret
      exact ⟨ret_bool (by rw [HSG.out]; simp), HB0.out⟩

    by_cases hq : g = g'
    case neg =>
      have hL : ¬ g.toList = g'.toList := fun h => hq (bytes_eq10 h)
      have HL := Lib.hid hL
      go_wp2
      go_ret
      exact ⟨ret_bool (by rw [show eqS g g' = false by unfold eqS; simpa using HL.out]; simp), HB0.out⟩
    subst hq
    by_cases hq : a = a'
    case neg =>
      have hL : ¬ a.toList = a'.toList := fun h => hq (bytes_eq10 h)
      have HL := Lib.hid hL
      go_wp2
      go_ret
      exact ⟨ret_bool (by rw [show eqS a a' = false by unfold eqS; simpa using HL.out]; simp), HB0.out⟩
    subst hq
    by_cases hq : v = v'
    case neg =>
      have hL : ¬ v.toList = v'.toList := fun h => hq (bytes_eq10 h)
      have HL := Lib.hid hL
      go_wp2
      go_ret
      exact ⟨ret_bool (by rw [show eqS v v' = false by unfold eqS; simpa using HL.out]; simp), HB0.out⟩
    subst hq
    by_cases hq : pk = pk'
    case neg =>
      have hL : ¬ pk.toList = pk'.toList := fun h => hq (bytes_eq10 h)
      have HL := Lib.hid hL
      go_wp2
      go_ret
      exact ⟨ret_bool (by rw [show eqS pk pk' = false by unfold eqS; simpa using HL.out]; simp), HB0.out⟩
    subst hq
    have hop := SameProps_any _ _ ps ps' w1 HA.out.p HBB.out.p
    generalize hb : sameL samePr ps ps' = b1 at hop
    have HE1 := Lib.hid hb
    clear hb
    have HOP := Lib.hid hop
    clear hop
    go_wp2_with fail
    refine HOP.out.mono ?_
    rintro e w2 ⟨rfl, hb2⟩
    have HB2 := Lib.hid hb2
    clear x0 x1 x2 x3 x4 x5 x6 x7 x8 x9 x10 y0 y1 y2 y3 y4 y5 y6 y7 y8 y9 y10 HOP hgv
    cases b1
    · clear hb2
      go_wp2
      go_ret
      exact ⟨ret_bool (by rw [HE1.out]; simp), HB0.out.trans (HB2.out.mono HB0.out.size)⟩
    have g1 := (hb2.block D (Array.getElem?_eq_some_iff.1 H1.out).1).trans H1.out
    have g2 := (hb2.block D' (Array.getElem?_eq_some_iff.1 H2.out).1).trans H2.out
    have x9 : w2.cell? ⟨D, 9, none⟩ = some (.slice e9 ms.length k9) := by rw [cell_of_row w2 D 9 _ _ (0, 0) g1]; rfl
    have y9 : w2.cell? ⟨D', 9, none⟩ = some (.slice e9' ms'.length k9') := by rw [cell_of_row w2 D' 9 _ _ (0, 0) g2]; rfl
    have hop := SameDeps_any _ _ ms ms' w2 (HA.out.m.below hb2 (Nat.le_refl _)) (HBB.out.m.below hb2 (Nat.le_refl _))
    generalize hb : sameL sameDp ms ms' = b1 at hop
    have HE2 := Lib.hid hb
    clear hb
    have HOP := Lib.hid hop
    clear hop hb2 g1 g2
    go_wp2_with fail
    refine HOP.out.mono ?_
    rintro e w3 ⟨rfl, hb3⟩
    have HB3 := Lib.hid (HB2.out.trans (hb3.mono HB2.out.size))
    clear x9 y9 HOP hb3
    cases b1
    · go_wp2
      go_ret
      exact ⟨ret_bool (by rw [HE2.out]; simp), HB0.out.trans (HB3.out.mono HB0.out.size)⟩
    have g1 := (HB3.out.block D (Array.getElem?_eq_some_iff.1 H1.out).1).trans H1.out
    have g2 := (HB3.out.block D' (Array.getElem?_eq_some_iff.1 H2.out).1).trans H2.out
    have x10 : w3.cell? ⟨D, 10, none⟩ = some (.slice e10 ds.length k10) := by rw [cell_of_row w3 D 10 _ _ (0, 0) g1]; rfl
    have y10 : w3.cell? ⟨D', 10, none⟩ = some (.slice e10' ds'.length k10') := by rw [cell_of_row w3 D' 10 _ _ (0, 0) g2]; rfl
    have hop := SameDeps_any _ _ ds ds' w3 (HA.out.d.below HB3.out (Nat.le_refl _)) (HBB.out.d.below HB3.out (Nat.le_refl _))
    generalize hb : sameL sameDp ds ds' = b1 at hop
    have HE3 := Lib.hid hb
    clear hb
    have HOP := Lib.hid hop
    clear hop g1 g2
    go_wp2_with fail
    refine HOP.out.mono ?_
    rintro e w4 ⟨rfl, hb4⟩
    have HB4 := Lib.hid (HB3.out.trans (hb4.mono HB3.out.size))
    clear x10 y10 HOP hb4
    go_wp2
    go_ret
    exact ⟨ret_bool (by rw [HSG.out, HE1.out, HE2.out, HE3.out]; simp [eqS_self]), HB0.out.trans (HB4.out.mono HB0.out.size)⟩
end Go.Proofs.Ytjkmmmmbdfcnbaa
