/-
  Layer 10: the answer's Merge. Own work.
-/
import Derived.Test.YtjkmmmmbdfcnbaaMrg10
namespace Go.Proofs.Ytjkmmmmbdfcnbaa
set_option linter.unusedVariables false
set_option linter.unusedSimpArgs false
open Go.RowKit

/-- a merged project is handed back -/
def MgP (c p : Pm) (w : World) (e : Ending) (w' : World) : Prop := ∃ a b d, e = .returned (pmV a b d (mergeM c p)) ∧ RdP w' a b d (mergeM c p) ∧ Below w.heap.size w w'
theorem refmg_results (tmps : Array Value) (w : World) (R : Nat) (cs : Array Value) (hs : cs.size = 11) (h2 : tmps.getD 4 undef = .pointer (some ⟨R, 0, none⟩))
    (hR : w.heap[R]? = some (.cells cs 27 (0, 0))) :
    (results Try.f10 tmps).run Try.prog w = .ok (.agg cs) w := by
  have h2' : tmps[4]?.getD undef = .pointer (some ⟨R, 0, none⟩) := by simpa using h2
  have l1 := run_loadVar_row w R 27 27 cs (0, 0) _ hR Try.underlying27 rfl (by rw [hs]; kernel_rfl)
  simp [results, Try.results10, h2', asAddr, l1]
theorem refmg_ret {c : Pm} {gz vz : ByteArray} {a b d : Value} {p : Pm} (h1 : gOf c = gz) (h2 : vOf c = vz) :
    Ending.returned (.agg #[.bool c.hp, .string c.pg, .string c.pa, .string c.pv, .string gz, .string c.a, .string vz, .string c.pk, a, b, d]) = .returned (pmV a b d (mergeM c p)) := by
  subst h1; subst h2; rfl
set_option maxRecDepth 100000 in
set_option maxHeartbeats 8000000 in
theorem refMerge_any (c p : Pm) (va vb vc va2 vb2 vc2 : Value) (w : World) (hc : RdP w va vb vc c) (hp : RdP w va2 vb2 vc2 p)
    (hl1 : c.ps.length ≤ 10000) (hl2 : c.ms.length ≤ 10000) (hl3 : c.ds.length ≤ 10000) (hl4 : p.ps.length ≤ 10000) (hl5 : p.ms.length ≤ 10000) (hl6 : p.ds.length ≤ 10000) :
    Calls Try.prog 10 #[pmV va vb vc c, pmV va2 vb2 vc2 p] w (MgP c p w) := by
  obtain ⟨psa, psc, rfl⟩ := RdSl.shape hc.p
  obtain ⟨msa, msc, rfl⟩ := RdSl.shape hc.m
  obtain ⟨dsa, dsc, rfl⟩ := RdSl.shape hc.d
  obtain ⟨qsa, qsc, rfl⟩ := RdSl.shape hp.p
  obtain ⟨nsa, nsc, rfl⟩ := RdSl.shape hp.m
  obtain ⟨esa, esc, rfl⟩ := RdSl.shape hp.d
  have HC := Lib.hid hc
  have HP := Lib.hid hp
  clear hc hp
  obtain ⟨hp, pg, pa, pv, g, a, v, pk, ps, ms, ds⟩ := c
  obtain ⟨hp2, pg2, pa2, pv2, g2, a2, v2, pk2, qs, ns, es⟩ := p
  dsimp only at hl1 hl2 hl3 hl4 hl5 hl6
  have hpsI : (ps.length : Int) ≤ 10000 := by omega
  unfold pmV
  dsimp only
  have hb0 : Below w.heap.size w (((w.alloc (.cells #[.bool hp, .string pg, .string pa, .string pv, .string g, .string a, .string v, .string pk, .slice psa ps.length psc, .slice msa ms.length msc, .slice dsa ds.length dsc] 27)).alloc (.cells #[.bool hp2, .string pg2, .string pa2, .string pv2, .string g2, .string a2, .string v2, .string pk2, .slice qsa qs.length qsc, .slice nsa ns.length nsc, .slice esa es.length esc] 27)).alloc (.cells #[.bool false, .string ⟨#[]⟩, .string ⟨#[]⟩, .string ⟨#[]⟩, .string ⟨#[]⟩, .string ⟨#[]⟩, .string ⟨#[]⟩, .string ⟨#[]⟩, .slice none 0 0, .slice none 0 0, .slice none 0 0] 27)) := (((Below.refl w.heap.size w).alloc (Nat.le_refl _) _).alloc (by simp) _).alloc (by simp; omega) _
  have hC : (((w.alloc (.cells #[.bool hp, .string pg, .string pa, .string pv, .string g, .string a, .string v, .string pk, .slice psa ps.length psc, .slice msa ms.length msc, .slice dsa ds.length dsc] 27)).alloc (.cells #[.bool hp2, .string pg2, .string pa2, .string pv2, .string g2, .string a2, .string v2, .string pk2, .slice qsa qs.length qsc, .slice nsa ns.length nsc, .slice esa es.length esc] 27)).alloc (.cells #[.bool false, .string ⟨#[]⟩, .string ⟨#[]⟩, .string ⟨#[]⟩, .string ⟨#[]⟩, .string ⟨#[]⟩, .string ⟨#[]⟩, .string ⟨#[]⟩, .slice none 0 0, .slice none 0 0, .slice none 0 0] 27)).heap[w.heap.size]? = some (.cells #[.bool hp, .string pg, .string pa, .string pv, .string g, .string a, .string v, .string pk, .slice psa ps.length psc, .slice msa ms.length msc, .slice dsa ds.length dsc] 27 (0, 0)) := (Below.heap_alloc _ _ _ (by simp; omega)).trans ((Below.heap_alloc _ _ _ (by simp)).trans (heap_alloc_new w _))
  have hP : (((w.alloc (.cells #[.bool hp, .string pg, .string pa, .string pv, .string g, .string a, .string v, .string pk, .slice psa ps.length psc, .slice msa ms.length msc, .slice dsa ds.length dsc] 27)).alloc (.cells #[.bool hp2, .string pg2, .string pa2, .string pv2, .string g2, .string a2, .string v2, .string pk2, .slice qsa qs.length qsc, .slice nsa ns.length nsc, .slice esa es.length esc] 27)).alloc (.cells #[.bool false, .string ⟨#[]⟩, .string ⟨#[]⟩, .string ⟨#[]⟩, .string ⟨#[]⟩, .string ⟨#[]⟩, .string ⟨#[]⟩, .string ⟨#[]⟩, .slice none 0 0, .slice none 0 0, .slice none 0 0] 27)).heap[w.heap.size + 1]? = some (.cells #[.bool hp2, .string pg2, .string pa2, .string pv2, .string g2, .string a2, .string v2, .string pk2, .slice qsa qs.length qsc, .slice nsa ns.length nsc, .slice esa es.length esc] 27 (0, 0)) := by
    have := heap_alloc_new (w.alloc (.cells #[.bool hp, .string pg, .string pa, .string pv, .string g, .string a, .string v, .string pk, .slice psa ps.length psc, .slice msa ms.length msc, .slice dsa ds.length dsc] 27)) (.cells #[.bool hp2, .string pg2, .string pa2, .string pv2, .string g2, .string a2, .string v2, .string pk2, .slice qsa qs.length qsc, .slice nsa ns.length nsc, .slice esa es.length esc] 27)
    refine (Below.heap_alloc _ _ _ (by simp)).trans ?_
    simpa using this
  have hR : (((w.alloc (.cells #[.bool hp, .string pg, .string pa, .string pv, .string g, .string a, .string v, .string pk, .slice psa ps.length psc, .slice msa ms.length msc, .slice dsa ds.length dsc] 27)).alloc (.cells #[.bool hp2, .string pg2, .string pa2, .string pv2, .string g2, .string a2, .string v2, .string pk2, .slice qsa qs.length qsc, .slice nsa ns.length nsc, .slice esa es.length esc] 27)).alloc (.cells #[.bool false, .string ⟨#[]⟩, .string ⟨#[]⟩, .string ⟨#[]⟩, .string ⟨#[]⟩, .string ⟨#[]⟩, .string ⟨#[]⟩, .string ⟨#[]⟩, .slice none 0 0, .slice none 0 0, .slice none 0 0] 27)).heap[w.heap.size + 2]? = some (.cells #[.bool false, .string ⟨#[]⟩, .string ⟨#[]⟩, .string ⟨#[]⟩, .string ⟨#[]⟩, .string ⟨#[]⟩, .string ⟨#[]⟩, .string ⟨#[]⟩, .slice none 0 0, .slice none 0 0, .slice none 0 0] 27 (0, 0)) := by
    have := heap_alloc_new ((w.alloc (.cells #[.bool hp, .string pg, .string pa, .string pv, .string g, .string a, .string v, .string pk, .slice psa ps.length psc, .slice msa ms.length msc, .slice dsa ds.length dsc] 27)).alloc (.cells #[.bool hp2, .string pg2, .string pa2, .string pv2, .string g2, .string a2, .string v2, .string pk2, .slice qsa qs.length qsc, .slice nsa ns.length nsc, .slice esa es.length esc] 27)) (.cells #[.bool false, .string ⟨#[]⟩, .string ⟨#[]⟩, .string ⟨#[]⟩, .string ⟨#[]⟩, .string ⟨#[]⟩, .string ⟨#[]⟩, .string ⟨#[]⟩, .slice none 0 0, .slice none 0 0, .slice none 0 0] 27)
    simpa using this
  have hsz : (((w.alloc (.cells #[.bool hp, .string pg, .string pa, .string pv, .string g, .string a, .string v, .string pk, .slice psa ps.length psc, .slice msa ms.length msc, .slice dsa ds.length dsc] 27)).alloc (.cells #[.bool hp2, .string pg2, .string pa2, .string pv2, .string g2, .string a2, .string v2, .string pk2, .slice qsa qs.length qsc, .slice nsa ns.length nsc, .slice esa es.length esc] 27)).alloc (.cells #[.bool false, .string ⟨#[]⟩, .string ⟨#[]⟩, .string ⟨#[]⟩, .string ⟨#[]⟩, .string ⟨#[]⟩, .string ⟨#[]⟩, .string ⟨#[]⟩, .slice none 0 0, .slice none 0 0, .slice none 0 0] 27)).heap.size = w.heap.size + 3 := by simp
  have HB0 := Lib.hid hb0
  clear hb0
  go_enter Try.func10, Try.ntmps10
  go_upto_region 1 with fail
  generalize (((w.alloc (.cells #[.bool hp, .string pg, .string pa, .string pv, .string g, .string a, .string v, .string pk, .slice psa ps.length psc, .slice msa ms.length msc, .slice dsa ds.length dsc] 27)).alloc (.cells #[.bool hp2, .string pg2, .string pa2, .string pv2, .string g2, .string a2, .string v2, .string pk2, .slice qsa qs.length qsc, .slice nsa ns.length nsc, .slice esa es.length esc] 27)).alloc (.cells #[.bool false, .string ⟨#[]⟩, .string ⟨#[]⟩, .string ⟨#[]⟩, .string ⟨#[]⟩, .string ⟨#[]⟩, .string ⟨#[]⟩, .string ⟨#[]⟩, .slice none 0 0, .slice none 0 0, .slice none 0 0] 27)) = w1 at hC hP hR hsz HB0 ⊢
  obtain ⟨P, hPe⟩ : ∃ b, b = w.heap.size + 1 := ⟨_, rfl⟩
  obtain ⟨R, hRe⟩ : ∃ b, b = P + 1 := ⟨_, rfl⟩
  rw [← hPe] at hP
  rw [show w.heap.size + 2 = R by omega] at hR
  simp only [← hPe, ← hRe]
  have HRG := Lib.hid (show w.heap.size ≤ R by omega)
  have HZ := Lib.hid (show w.heap.size ≤ w1.heap.size by omega)
  have HCl := Lib.hid (show w.heap.size < w1.heap.size by omega)
  have HPl := Lib.hid (show P < w1.heap.size by omega)
  have HRl := Lib.hid (show R < w1.heap.size by omega)
  clear hsz hPe hRe
  have HC0 := Lib.hid hC
  have HP0 := Lib.hid hP
  have HR0 := Lib.hid hR
  generalize hC0 : w.heap.size = C at hC HC0 HCl ⊢
  have HCe := Lib.hid hC0
  clear hC0
  have c0 : w1.cell? ⟨C, 0, none⟩ = some (.bool hp) := by rw [cell_of_row w1 C 0 _ _ (0, 0) hC]; rfl
  have c1 : w1.cell? ⟨C, 1, none⟩ = some (.string pg) := by rw [cell_of_row w1 C 1 _ _ (0, 0) hC]; rfl
  have c2 : w1.cell? ⟨C, 2, none⟩ = some (.string pa) := by rw [cell_of_row w1 C 2 _ _ (0, 0) hC]; rfl
  have c3 : w1.cell? ⟨C, 3, none⟩ = some (.string pv) := by rw [cell_of_row w1 C 3 _ _ (0, 0) hC]; rfl
  have c4 : w1.cell? ⟨C, 4, none⟩ = some (.string g) := by rw [cell_of_row w1 C 4 _ _ (0, 0) hC]; rfl
  have c5 : w1.cell? ⟨C, 5, none⟩ = some (.string a) := by rw [cell_of_row w1 C 5 _ _ (0, 0) hC]; rfl
  have c6 : w1.cell? ⟨C, 6, none⟩ = some (.string v) := by rw [cell_of_row w1 C 6 _ _ (0, 0) hC]; rfl
  have c7 : w1.cell? ⟨C, 7, none⟩ = some (.string pk) := by rw [cell_of_row w1 C 7 _ _ (0, 0) hC]; rfl
  have c8 : w1.cell? ⟨C, 8, none⟩ = some (.slice psa ps.length psc) := by rw [cell_of_row w1 C 8 _ _ (0, 0) hC]; rfl
  have c9 : w1.cell? ⟨C, 9, none⟩ = some (.slice msa ms.length msc) := by rw [cell_of_row w1 C 9 _ _ (0, 0) hC]; rfl
  have c10 : w1.cell? ⟨C, 10, none⟩ = some (.slice dsa ds.length dsc) := by rw [cell_of_row w1 C 10 _ _ (0, 0) hC]; rfl
  have p0 : w1.cell? ⟨P, 0, none⟩ = some (.bool hp2) := by rw [cell_of_row w1 P 0 _ _ (0, 0) hP]; rfl
  have p1 : w1.cell? ⟨P, 1, none⟩ = some (.string pg2) := by rw [cell_of_row w1 P 1 _ _ (0, 0) hP]; rfl
  have p2 : w1.cell? ⟨P, 2, none⟩ = some (.string pa2) := by rw [cell_of_row w1 P 2 _ _ (0, 0) hP]; rfl
  have p3 : w1.cell? ⟨P, 3, none⟩ = some (.string pv2) := by rw [cell_of_row w1 P 3 _ _ (0, 0) hP]; rfl
  have p4 : w1.cell? ⟨P, 4, none⟩ = some (.string g2) := by rw [cell_of_row w1 P 4 _ _ (0, 0) hP]; rfl
  have p5 : w1.cell? ⟨P, 5, none⟩ = some (.string a2) := by rw [cell_of_row w1 P 5 _ _ (0, 0) hP]; rfl
  have p6 : w1.cell? ⟨P, 6, none⟩ = some (.string v2) := by rw [cell_of_row w1 P 6 _ _ (0, 0) hP]; rfl
  have p7 : w1.cell? ⟨P, 7, none⟩ = some (.string pk2) := by rw [cell_of_row w1 P 7 _ _ (0, 0) hP]; rfl
  have p8 : w1.cell? ⟨P, 8, none⟩ = some (.slice qsa qs.length qsc) := by rw [cell_of_row w1 P 8 _ _ (0, 0) hP]; rfl
  have p9 : w1.cell? ⟨P, 9, none⟩ = some (.slice nsa ns.length nsc) := by rw [cell_of_row w1 P 9 _ _ (0, 0) hP]; rfl
  have p10 : w1.cell? ⟨P, 10, none⟩ = some (.slice esa es.length esc) := by rw [cell_of_row w1 P 10 _ _ (0, 0) hP]; rfl
  clear hC hP hR
  have hbn : Below w1.heap.size w1 (w1.alloc (.cells #[.bool hp, .string pg, .string pa, .string pv, .string g, .string a, .string v, .string pk, .slice qsa qs.length qsc, .slice none 0 0, .slice none 0 0] 27)) := (Below.refl _ _).alloc (Nat.le_refl _) _
  have hon : (w1.alloc (.cells #[.bool hp, .string pg, .string pa, .string pv, .string g, .string a, .string v, .string pk, .slice qsa qs.length qsc, .slice none 0 0, .slice none 0 0] 27)).heap[w1.heap.size]? = some (.cells #[.bool hp, .string pg, .string pa, .string pv, .string g, .string a, .string v, .string pk, .slice qsa qs.length qsc, .slice none 0 0, .slice none 0 0] 27 (0, 0)) := heap_alloc_new w1 _
  go_upto_region 2 with fail
  generalize w1.alloc (.cells #[.bool hp, .string pg, .string pa, .string pv, .string g, .string a, .string v, .string pk, .slice qsa qs.length qsc, .slice none 0 0, .slice none 0 0] 27) = w2 at hbn hon ⊢
  clear c0 c1 c2 c3 c4 c5 c6 c7 c8 c9 c10 p0 p1 p2 p3 p4 p5 p6 p7 p8 p9 p10
  obtain ⟨O, hOe⟩ : ∃ b, b = w1.heap.size := ⟨_, rfl⟩
  rw [← hOe] at hon hbn ⊢
  have HOE := Lib.hid hOe
  clear hOe
  have hCw := (hbn.block C (by rw [HOE.out]; exact HCl.out)).trans HC0.out
  have c0 : w2.cell? ⟨C, 0, none⟩ = some (.bool hp) := by rw [cell_of_row w2 C 0 _ _ (0, 0) hCw]; rfl
  have HON := Lib.hid hon
  have HB2 := Lib.hid hbn
  have HCw := Lib.hid hCw
  clear hCw hon hbn
  go_upto_if 24 with fail
  go_cut [] from 8 to 65 (fun wx => wx.heap[O]? = some (.cells #[.bool hp, .string pg, .string pa, .string pv, .string (gOf ⟨hp, pg, pa, pv, g, a, v, pk, ps, ms, ds⟩), .string a, .string (vOf ⟨hp, pg, pa, pv, g, a, v, pk, ps, ms, ds⟩), .string pk, .slice qsa qs.length qsc, .slice none 0 0, .slice none 0 0] 27 (0, 0)) ∧ Below O w1 wx)
  case first =>
    cases hp
    case false =>
      go_wp2_with fail
      go_meet
      exact ⟨by rw [gOf_h rfl, vOf_h rfl]; exact HON.out, HB2.out⟩
    case true =>
      have HC0' := Lib.hid HCw.out
      have c0 : w2.cell? ⟨C, 0, none⟩ = some (.bool true) := by rw [cell_of_row w2 C 0 _ _ (0, 0) HCw.out]; rfl
      have c1 : w2.cell? ⟨C, 1, none⟩ = some (.string pg) := by rw [cell_of_row w2 C 1 _ _ (0, 0) HCw.out]; rfl
      have c2 : w2.cell? ⟨C, 2, none⟩ = some (.string pa) := by rw [cell_of_row w2 C 2 _ _ (0, 0) HCw.out]; rfl
      have c3 : w2.cell? ⟨C, 3, none⟩ = some (.string pv) := by rw [cell_of_row w2 C 3 _ _ (0, 0) HCw.out]; rfl
      have c4 : w2.cell? ⟨C, 4, none⟩ = some (.string g) := by rw [cell_of_row w2 C 4 _ _ (0, 0) HCw.out]; rfl
      have c5 : w2.cell? ⟨C, 5, none⟩ = some (.string a) := by rw [cell_of_row w2 C 5 _ _ (0, 0) HCw.out]; rfl
      have c6 : w2.cell? ⟨C, 6, none⟩ = some (.string v) := by rw [cell_of_row w2 C 6 _ _ (0, 0) HCw.out]; rfl
      have c7 : w2.cell? ⟨C, 7, none⟩ = some (.string pk) := by rw [cell_of_row w2 C 7 _ _ (0, 0) HCw.out]; rfl
      have c8 : w2.cell? ⟨C, 8, none⟩ = some (.slice psa ps.length psc) := by rw [cell_of_row w2 C 8 _ _ (0, 0) HCw.out]; rfl
      have c9 : w2.cell? ⟨C, 9, none⟩ = some (.slice msa ms.length msc) := by rw [cell_of_row w2 C 9 _ _ (0, 0) HCw.out]; rfl
      have c10 : w2.cell? ⟨C, 10, none⟩ = some (.slice dsa ds.length dsc) := by rw [cell_of_row w2 C 10 _ _ (0, 0) HCw.out]; rfl
      by_cases hg : g = ⟨#[]⟩
      · have HG := Lib.hid (gOf_t (c := ⟨true, pg, pa, pv, g, a, v, pk, ps, ms, ds⟩) rfl (nilB_iff.2 hg))
        subst hg
        have f4 := frozen_of_row w2 O 4 _ _ HON.out
        have o4 : w2.cell? ⟨O, 4, none⟩ = some (.string ⟨#[]⟩) := by rw [cell_of_row w2 O 4 _ _ (0, 0) HON.out]; rfl
        have hset := heap_setCell_same w2 O 4 _ _ (.string pg) HON.out
        have hbs := HB2.out.setCell (p := ⟨O, 4, none⟩) (Nat.le_refl _) (.string pg)
        go_upto_region 5 with fail
        generalize w2.setCell ⟨O, 4, none⟩ (.string pg) = w3 at hset hbs ⊢
        have HO3 := Lib.hid hset
        have HB3 := Lib.hid hbs
        clear hset hbs f4 o4 c0 c1 c2 c3 c4 c5 c6 c7 c8 c9 c10
        have hCx := (HB3.out.block C (by rw [HOE.out]; exact HCl.out)).trans HC0.out
        have c0 : w3.cell? ⟨C, 0, none⟩ = some (.bool true) := by rw [cell_of_row w3 C 0 _ _ (0, 0) hCx]; rfl
        have c1 : w3.cell? ⟨C, 1, none⟩ = some (.string pg) := by rw [cell_of_row w3 C 1 _ _ (0, 0) hCx]; rfl
        have c2 : w3.cell? ⟨C, 2, none⟩ = some (.string pa) := by rw [cell_of_row w3 C 2 _ _ (0, 0) hCx]; rfl
        have c3 : w3.cell? ⟨C, 3, none⟩ = some (.string pv) := by rw [cell_of_row w3 C 3 _ _ (0, 0) hCx]; rfl
        have c4 : w3.cell? ⟨C, 4, none⟩ = some (.string ⟨#[]⟩) := by rw [cell_of_row w3 C 4 _ _ (0, 0) hCx]; rfl
        have c5 : w3.cell? ⟨C, 5, none⟩ = some (.string a) := by rw [cell_of_row w3 C 5 _ _ (0, 0) hCx]; rfl
        have c6 : w3.cell? ⟨C, 6, none⟩ = some (.string v) := by rw [cell_of_row w3 C 6 _ _ (0, 0) hCx]; rfl
        have c7 : w3.cell? ⟨C, 7, none⟩ = some (.string pk) := by rw [cell_of_row w3 C 7 _ _ (0, 0) hCx]; rfl
        have c8 : w3.cell? ⟨C, 8, none⟩ = some (.slice psa ps.length psc) := by rw [cell_of_row w3 C 8 _ _ (0, 0) hCx]; rfl
        have c9 : w3.cell? ⟨C, 9, none⟩ = some (.slice msa ms.length msc) := by rw [cell_of_row w3 C 9 _ _ (0, 0) hCx]; rfl
        have c10 : w3.cell? ⟨C, 10, none⟩ = some (.slice dsa ds.length dsc) := by rw [cell_of_row w3 C 10 _ _ (0, 0) hCx]; rfl
        clear hCx
        by_cases hv : v = ⟨#[]⟩
        · have HV := Lib.hid (vOf_t (c := ⟨true, pg, pa, pv, ⟨#[]⟩, a, v, pk, ps, ms, ds⟩) rfl (nilB_iff.2 hv))
          subst hv
          have f6 := frozen_of_row w3 O 6 _ _ HO3.out
          have o6 : w3.cell? ⟨O, 6, none⟩ = some (.string ⟨#[]⟩) := by rw [cell_of_row w3 O 6 _ _ (0, 0) HO3.out]; rfl
          have hset := heap_setCell_same w3 O 6 _ _ (.string pv) HO3.out
          have HBV := Lib.hid (HB3.out.setCell (p := ⟨O, 6, none⟩) (Nat.le_refl _) (.string pv))
          have HSET := Lib.hid hset
          clear hset
          go_wp2_with fail
          go_meet
          exact ⟨by rw [HG.out, HV.out]; exact HSET.out, HBV.out⟩
        · have hVn : nilB v = false := by cases hq : nilB v with | false => rfl | true => exact absurd (nilB_iff.1 hq) hv
          have HV := Lib.hid (vOf_f (c := ⟨true, pg, pa, pv, ⟨#[]⟩, a, v, pk, ps, ms, ds⟩) hVn)
          have hL3 : v.toList.isEmpty = false := hVn
          clear hv hVn
          go_wp2_with fail
          go_meet
          exact ⟨by rw [HG.out, HV.out]; exact HO3.out, HB3.out⟩
      · have hGn : nilB g = false := by cases hq : nilB g with | false => rfl | true => exact absurd (nilB_iff.1 hq) hg
        have HG := Lib.hid (gOf_f (c := ⟨true, pg, pa, pv, g, a, v, pk, ps, ms, ds⟩) hGn)
        have hL4 : g.toList.isEmpty = false := hGn
        clear hg hGn
        by_cases hv : v = ⟨#[]⟩
        · have HV := Lib.hid (vOf_t (c := ⟨true, pg, pa, pv, g, a, v, pk, ps, ms, ds⟩) rfl (nilB_iff.2 hv))
          subst hv
          have f6 := frozen_of_row w2 O 6 _ _ HON.out
          have o6 : w2.cell? ⟨O, 6, none⟩ = some (.string ⟨#[]⟩) := by rw [cell_of_row w2 O 6 _ _ (0, 0) HON.out]; rfl
          have hset := heap_setCell_same w2 O 6 _ _ (.string pv) HON.out
          have HBV := Lib.hid (HB2.out.setCell (p := ⟨O, 6, none⟩) (Nat.le_refl _) (.string pv))
          have HSET := Lib.hid hset
          clear hset
          go_wp2_with fail
          go_meet
          exact ⟨by rw [HG.out, HV.out]; exact HSET.out, HBV.out⟩
        · have hVn : nilB v = false := by cases hq : nilB v with | false => rfl | true => exact absurd (nilB_iff.1 hq) hv
          have HV := Lib.hid (vOf_f (c := ⟨true, pg, pa, pv, g, a, v, pk, ps, ms, ds⟩) hVn)
          have hL3 : v.toList.isEmpty = false := hVn
          clear hv hVn
          go_wp2_with fail
          go_meet
          exact ⟨by rw [HG.out, HV.out]; exact HON.out, HB2.out⟩
  case rest =>
    obtain ⟨hon, hbc⟩ := hcut
    generalize hgz : gOf ⟨hp, pg, pa, pv, g, a, v, pk, ps, ms, ds⟩ = gz at hon
    generalize hvz : vOf ⟨hp, pg, pa, pv, g, a, v, pk, ps, ms, ds⟩ = vz at hon
    have HGZ := Lib.hid hgz
    have HVZ := Lib.hid hvz
    have HOC := Lib.hid hon
    have HBC := Lib.hid hbc
    have hCx := (HBC.out.block C (by rw [HOE.out]; exact HCl.out)).trans HC0.out
    have c0 : wc.cell? ⟨C, 0, none⟩ = some (.bool hp) := by rw [cell_of_row wc C 0 _ _ (0, 0) hCx]; rfl
    have c1 : wc.cell? ⟨C, 1, none⟩ = some (.string pg) := by rw [cell_of_row wc C 1 _ _ (0, 0) hCx]; rfl
    have c2 : wc.cell? ⟨C, 2, none⟩ = some (.string pa) := by rw [cell_of_row wc C 2 _ _ (0, 0) hCx]; rfl
    have c3 : wc.cell? ⟨C, 3, none⟩ = some (.string pv) := by rw [cell_of_row wc C 3 _ _ (0, 0) hCx]; rfl
    have c4 : wc.cell? ⟨C, 4, none⟩ = some (.string g) := by rw [cell_of_row wc C 4 _ _ (0, 0) hCx]; rfl
    have c5 : wc.cell? ⟨C, 5, none⟩ = some (.string a) := by rw [cell_of_row wc C 5 _ _ (0, 0) hCx]; rfl
    have c6 : wc.cell? ⟨C, 6, none⟩ = some (.string v) := by rw [cell_of_row wc C 6 _ _ (0, 0) hCx]; rfl
    have c7 : wc.cell? ⟨C, 7, none⟩ = some (.string pk) := by rw [cell_of_row wc C 7 _ _ (0, 0) hCx]; rfl
    have c8 : wc.cell? ⟨C, 8, none⟩ = some (.slice psa ps.length psc) := by rw [cell_of_row wc C 8 _ _ (0, 0) hCx]; rfl
    have c9 : wc.cell? ⟨C, 9, none⟩ = some (.slice msa ms.length msc) := by rw [cell_of_row wc C 9 _ _ (0, 0) hCx]; rfl
    have c10 : wc.cell? ⟨C, 10, none⟩ = some (.slice dsa ds.length dsc) := by rw [cell_of_row wc C 10 _ _ (0, 0) hCx]; rfl
    have HW0 := Lib.hid (show Below w.heap.size w w1 from HB0.out)
    have hZ : w.heap.size ≤ O := by rw [HOE.out]; exact HZ.out
    have HZO := Lib.hid hZ
    clear hgz hvz hon hbc hCx hZ
    go_wp2_with fail
    go_loopw [42] (fun i wr => ∃ (k : Nat) (u : Value), k ≤ ps.length ∧ i = .int .i64 k ∧ wr.heap[O]? = some (.cells #[.bool hp, .string pg, .string pa, .string pv, .string gz, .string a, .string vz, .string pk, u, .slice none 0 0, .slice none 0 0] 27 (0, 0)) ∧ PsK w (O + 1) wr u (over qs (ps.take k)) ∧ Below O w1 wr) (fun i _ => ps.length - (intOf i).toNat)
    case atStart => exact ⟨0, _, by omega, rfl, HOC.out, .inl HP.out.p, HBC.out⟩
    case round =>
      clear c0 c1 c2 c3 c4 c5 c6 c7 c8 c9 c10
      obtain ⟨k, u, hk, rfl, hor, hps, hbr⟩ := hrel
      obtain ⟨ua, uc, rfl⟩ := hps.shape
      have HOR := Lib.hid hor
      have HPS := Lib.hid hps
      have HBR := Lib.hid hbr
      have HBW := Lib.hid (HB0.out.trans (hbr.mono HZO.out))
      clear hps hbr
      by_cases hlt : k < ps.length
      · obtain ⟨x, hx⟩ : ∃ x, ps[k]? = some x := ⟨_, List.getElem?_eq_getElem hlt⟩
        obtain ⟨a1, e1, p0, p1⟩ := RdSl.elem (HC.out.p.below HBW.out (Nat.le_refl _)) hx
        subst e1
        have HX := Lib.hid (over_step (l := qs) hx)
        have hbb : Below wr.heap.size wr (wr.alloc (.cells #[.string x.n, .string x.v] 36)) := (Below.refl _ _).alloc (Nat.le_refl _) _
        have hnew := heap_alloc_new wr (.cells #[.string x.n, .string x.v] 36)
        have HBB := Lib.hid hbb
        have HOL := Lib.hid (show O < wr.heap.size from (Array.getElem?_eq_some_iff.1 hor).1)
        clear hbb hx hor
        go_upto_region 10 with fail
        generalize wr.alloc (.cells #[.string x.n, .string x.v] 36) = wb at hnew HBB ⊢
        obtain ⟨KB, hKB⟩ : ∃ b, b = wr.heap.size := ⟨_, rfl⟩
        rw [← hKB] at hnew ⊢
        clear hKB p0 p1
        have r0 : wb.cell? ⟨KB, 0, none⟩ = some (.string x.n) := by rw [cell_of_row wb KB 0 _ _ (0, 0) hnew]; rfl
        have r1 : wb.cell? ⟨KB, 1, none⟩ = some (.string x.v) := by rw [cell_of_row wb KB 1 _ _ (0, 0) hnew]; rfl
        have HOB := Lib.hid ((HBB.out.block O HOL.out).trans HOR.out)
        have o8 : wb.cell? ⟨O, 8, none⟩ = some (.slice ua (over qs (ps.take k)).length uc) := by rw [cell_of_row wb O 8 _ _ (0, 0) HOB.out]; rfl
        have HPB := Lib.hid (HPS.out.below HBB.out)
        have HBB1 := Lib.hid (HBR.out.trans (HBB.out.mono (Nat.le_of_lt HOL.out)))
        have HBBw := Lib.hid (HBW.out.trans (HBB.out.mono HBW.out.size))
        have hlen : (over qs (ps.take k)).length ≤ 100000 := by
          have h1 := over_len (ps.take k) qs
          have h2 := List.length_take_le k ps
          omega
        have HOP := Lib.hid (Put_any (over qs (ps.take k)) x _ wb (HPB.out.rd HBBw.out) hlen)
        clear hnew hlen
        go_wp2_with fail
        refine HOP.out.mono ?_
        rintro e w3 ⟨u3, rfl, hown3, hb3⟩
        rw [← HX.out] at hown3
        obtain ⟨u3a, u3c, hu3⟩ := RdSl.shape (RdPs.of_own hown3)
        subst hu3
        have HOBl := Lib.hid (show O < wb.heap.size from (Array.getElem?_eq_some_iff.1 HOB.out).1)
        have ho3 := (hb3.block O HOBl.out).trans HOB.out
        have f8 := frozen_of_row w3 O 8 _ _ ho3
        have q8 : w3.cell? ⟨O, 8, none⟩ = some (.slice ua (over qs (ps.take k)).length uc) := by rw [cell_of_row w3 O 8 _ _ (0, 0) ho3]; rfl
        have hset := heap_setCell_same w3 O 8 _ _ (.slice u3a (over qs (ps.take (k + 1))).length u3c) ho3
        have HSET := Lib.hid hset
        have HB3 := Lib.hid ((HBB1.out.trans (hb3.mono (Nat.le_of_lt HOBl.out))).setCell (p := ⟨O, 8, none⟩) (Nat.le_refl _) (.slice u3a (over qs (ps.take (k + 1))).length u3c))
        have HP3 := Lib.hid (PsK.put (j := 8) (u := .slice u3a (over qs (ps.take (k + 1))).length u3c) (show PsK w (O + 1) w3 _ _ from .inr (own_mono10 hown3 HOBl.out)) (Nat.lt_succ_self O))
        clear hb3 hown3 ho3 hset r0 r1 o8 HOP
        generalize (over qs (ps.take (k + 1))).length = n3 at HSET HB3 HP3 ⊢
        go_wp2
        go_roundw
        case rel => exact ⟨k + 1, _, by omega, by go_num, HSET.out, HP3.out, HB3.out⟩
        case measure => simp [intOf]; omega
      · have hle : (ps.length : Int) ≤ k := by omega
        have HOV := Lib.hid (show over qs (ps.take k) = over qs ps by rw [List.take_of_length_le (by omega)])
        rw [HOV.out] at hor
        have HORx := Lib.hid (show wr.heap[O]? = some (.cells #[.bool hp, .string pg, .string pa, .string pv, .string gz, .string a, .string vz, .string pk, .slice ua (over qs ps).length uc, .slice none 0 0, .slice none 0 0] 27 (0, 0)) from hor)
        have HPX := Lib.hid (show PsK w (O + 1) wr (.slice ua (over qs ps).length uc) (over qs ps) by rw [← HOV.out]; exact HPS.out)
        clear hor HOR HPS HOV
        generalize hov : (over qs ps) = ov at HORx HPX
        have HOVE := Lib.hid hov
        clear hov
        have HOL := Lib.hid (show O < wr.heap.size from (Array.getElem?_eq_some_iff.1 HORx.out).1)
        have hCr := (HBR.out.block C (by rw [HOE.out]; exact HCl.out)).trans HC0.out
        have hPr := (HBR.out.block P (by rw [HOE.out]; exact HPl.out)).trans HP0.out
        have c9 : wr.cell? ⟨C, 9, none⟩ = some (.slice msa ms.length msc) := by rw [cell_of_row wr C 9 _ _ (0, 0) hCr]; rfl
        have p9 : wr.cell? ⟨P, 9, none⟩ = some (.slice nsa ns.length nsc) := by rw [cell_of_row wr P 9 _ _ (0, 0) hPr]; rfl
        have HOP := Lib.hid (refUnder_any ms ns _ _ w wr HC.out.m HP.out.m HBW.out hl2 hl5)
        clear hCr hPr
        go_wp2_with fail
        refine HOP.out.mono ?_
        rintro e w3 ⟨u3, rfl, hu3, hb3⟩
        obtain ⟨u3a, u3c, rfl⟩ := hu3.shape
        clear c9 p9 HOP
        have ho3 := (hb3.block O HOL.out).trans HORx.out
        have f9 := frozen_of_row w3 O 9 _ _ ho3
        have q9 : w3.cell? ⟨O, 9, none⟩ = some (.slice none 0 0) := by rw [cell_of_row w3 O 9 _ _ (0, 0) ho3]; rfl
        have hset := heap_setCell_same w3 O 9 _ _ (.slice u3a (underL ms ns).length u3c) ho3
        have HB4 := Lib.hid ((HBR.out.trans (hb3.mono (Nat.le_of_lt HOL.out))).setCell (p := ⟨O, 9, none⟩) (Nat.le_refl _) (.slice u3a (underL ms ns).length u3c))
        have HBW4 := Lib.hid ((HBW.out.trans (hb3.mono HBW.out.size)).setCell (p := ⟨O, 9, none⟩) HZO.out (.slice u3a (underL ms ns).length u3c))
        have HP4 := Lib.hid (PsK.put (j := 9) (u := .slice u3a (underL ms ns).length u3c) (HPX.out.below hb3) (Nat.lt_succ_self O))
        have HM4 := Lib.hid (DsK.put (j := 9) (u := .slice u3a (underL ms ns).length u3c) (hu3.mono (B' := O + 1) HOL.out) (Nat.lt_succ_self O))
        clear ho3 hb3 hu3
        generalize hne : (underL ms ns) = n3 at hset HB4 HBW4 HP4 HM4 ⊢
        have HNE := Lib.hid hne
        clear hne
        go_upto_region 13 with fail
        generalize w3.setCell ⟨O, 9, none⟩ (.slice u3a n3.length u3c) = w4 at hset HB4 HBW4 HP4 HM4 ⊢
        clear f9 q9
        have HO4 := Lib.hid (show w4.heap[O]? = some (.cells #[.bool hp, .string pg, .string pa, .string pv, .string gz, .string a, .string vz, .string pk, .slice ua ov.length uc, .slice u3a n3.length u3c, .slice none 0 0] 27 (0, 0)) from hset)
        have HOL4 := Lib.hid (show O < w4.heap.size from (Array.getElem?_eq_some_iff.1 hset).1)
        clear hset HOL HORx HPX HBR HBW
        have hCr := (HB4.out.block C (by rw [HOE.out]; exact HCl.out)).trans HC0.out
        have hPr := (HB4.out.block P (by rw [HOE.out]; exact HPl.out)).trans HP0.out
        have c10 : w4.cell? ⟨C, 10, none⟩ = some (.slice dsa ds.length dsc) := by rw [cell_of_row w4 C 10 _ _ (0, 0) hCr]; rfl
        have p10 : w4.cell? ⟨P, 10, none⟩ = some (.slice esa es.length esc) := by rw [cell_of_row w4 P 10 _ _ (0, 0) hPr]; rfl
        have HOP := Lib.hid (refUnder_any ds es _ _ w w4 HC.out.d HP.out.d HBW4.out hl3 hl6)
        clear hCr hPr
        go_wp2_with fail
        refine HOP.out.mono ?_
        rintro e w5 ⟨u5, rfl, hu5, hb5⟩
        obtain ⟨u5a, u5c, rfl⟩ := hu5.shape
        clear c10 p10 HOP
        have ho5 := (hb5.block O HOL4.out).trans HO4.out
        have f10 := frozen_of_row w5 O 10 _ _ ho5
        have q10 : w5.cell? ⟨O, 10, none⟩ = some (.slice none 0 0) := by rw [cell_of_row w5 O 10 _ _ (0, 0) ho5]; rfl
        have hset := heap_setCell_same w5 O 10 _ _ (.slice u5a (underL ds es).length u5c) ho5
        have HB6 := Lib.hid ((HB4.out.trans (hb5.mono (Nat.le_of_lt HOL4.out))).setCell (p := ⟨O, 10, none⟩) (Nat.le_refl _) (.slice u5a (underL ds es).length u5c))
        have HBW6 := Lib.hid ((HBW4.out.trans (hb5.mono HBW4.out.size)).setCell (p := ⟨O, 10, none⟩) HZO.out (.slice u5a (underL ds es).length u5c))
        have HP6 := Lib.hid (PsK.put (j := 10) (u := .slice u5a (underL ds es).length u5c) (HP4.out.below hb5) (Nat.lt_succ_self O))
        have HM6 := Lib.hid (DsK.put (j := 10) (u := .slice u5a (underL ds es).length u5c) (HM4.out.below hb5) (Nat.lt_succ_self O))
        have HD6 := Lib.hid (DsK.put (j := 10) (u := .slice u5a (underL ds es).length u5c) (hu5.mono (B' := O + 1) HOL4.out) (Nat.lt_succ_self O))
        clear ho5 hb5 hu5 HO4 HOL4 HB4 HBW4 HP4 HM4
        generalize hne : (underL ds es) = n5 at hset HB6 HBW6 HP6 HM6 HD6 ⊢
        have HNE5 := Lib.hid hne
        clear hne
        go_upto_region 14 with fail
        generalize w5.setCell ⟨O, 10, none⟩ (.slice u5a n5.length u5c) = w6 at hset HB6 HBW6 HP6 HM6 HD6 ⊢
        clear f10 q10
        have hon : w6.heap[O]? = some (.cells #[.bool hp, .string pg, .string pa, .string pv, .string gz, .string a, .string vz, .string pk, .slice ua ov.length uc, .slice u3a n3.length u3c, .slice u5a n5.length u5c] 27 (0, 0)) := hset
        have o0 : w6.cell? ⟨O, 0, none⟩ = some (.bool hp) := by rw [cell_of_row w6 O 0 _ _ (0, 0) hon]; rfl
        have o1 : w6.cell? ⟨O, 1, none⟩ = some (.string pg) := by rw [cell_of_row w6 O 1 _ _ (0, 0) hon]; rfl
        have o2 : w6.cell? ⟨O, 2, none⟩ = some (.string pa) := by rw [cell_of_row w6 O 2 _ _ (0, 0) hon]; rfl
        have o3 : w6.cell? ⟨O, 3, none⟩ = some (.string pv) := by rw [cell_of_row w6 O 3 _ _ (0, 0) hon]; rfl
        have o4 : w6.cell? ⟨O, 4, none⟩ = some (.string gz) := by rw [cell_of_row w6 O 4 _ _ (0, 0) hon]; rfl
        have o5 : w6.cell? ⟨O, 5, none⟩ = some (.string a) := by rw [cell_of_row w6 O 5 _ _ (0, 0) hon]; rfl
        have o6 : w6.cell? ⟨O, 6, none⟩ = some (.string vz) := by rw [cell_of_row w6 O 6 _ _ (0, 0) hon]; rfl
        have o7 : w6.cell? ⟨O, 7, none⟩ = some (.string pk) := by rw [cell_of_row w6 O 7 _ _ (0, 0) hon]; rfl
        have o8 : w6.cell? ⟨O, 8, none⟩ = some (.slice ua ov.length uc) := by rw [cell_of_row w6 O 8 _ _ (0, 0) hon]; rfl
        have o9 : w6.cell? ⟨O, 9, none⟩ = some (.slice u3a n3.length u3c) := by rw [cell_of_row w6 O 9 _ _ (0, 0) hon]; rfl
        have o10 : w6.cell? ⟨O, 10, none⟩ = some (.slice u5a n5.length u5c) := by rw [cell_of_row w6 O 10 _ _ (0, 0) hon]; rfl
        have HR6 := Lib.hid ((HB6.out.block R (by rw [HOE.out]; exact HRl.out)).trans HR0.out)
        have HRO := Lib.hid (show R < O by rw [HOE.out]; exact HRl.out)
        clear hset hon
        go_wp2_with (refine wpList_store_row rfl 27 _ _ rfl R #[.bool hp, .string pg, .string pa, .string pv, .string gz, .string a, .string vz, .string pk, .slice ua ov.length uc, .slice u3a n3.length u3c, .slice u5a n5.length u5c] rfl rfl 27 _ HR6.out (by kernel_rfl) rfl (by simp [Value.oneCell']) ?_)
        refine bodyPost_ret (refmg_results _ _ R #[.bool hp, .string pg, .string pa, .string pv, .string gz, .string a, .string vz, .string pk, .slice ua ov.length uc, .slice u3a n3.length u3c, .slice u5a n5.length u5c] rfl rfl (setRow_heap _ R _ _ _ _ HR6.out)) rfl ?_
        have HBZ := Lib.hid (below_setRow10 (cs := #[.bool hp, .string pg, .string pa, .string pv, .string gz, .string a, .string vz, .string pk, .slice ua ov.length uc, .slice u3a n3.length u3c, .slice u5a n5.length u5c]) HBW6.out HRG.out)
        refine ⟨_, _, _, refmg_ret HGZ.out HVZ.out, ⟨?_, ?_, ?_⟩, HBZ.out⟩
        · show RdPs _ _ (over qs ps)
          rw [HOVE.out]
          exact (HP6.out.row (Nat.lt_succ_of_lt HRO.out)).rd HBZ.out
        · show RdDs _ _ (underL ms ns)
          rw [HNE.out]
          exact (HM6.out.row (Nat.lt_succ_of_lt HRO.out)).rd HBZ.out
        · show RdDs _ _ (underL ds es)
          rw [HNE5.out]
          exact (HD6.out.row (Nat.lt_succ_of_lt HRO.out)).rd HBZ.out
end Go.Proofs.Ytjkmmmmbdfcnbaa
