/-
  Layer 10: chain.Merge. Own work.
-/
import Derived.Test.YtjkmmmmbdfcnbaaOver10
import Derived.Test.YtjkmmmmbdfcnbaaRefMg10
namespace Go.Proofs.Ytjkmmmmbdfcnbaa
set_option linter.unusedVariables false
set_option linter.unusedSimpArgs false
open Go.RowKit

/-- what Merge may be handed -/
structure OkP (c : Pm) : Prop where
  l1 : c.ps.length ≤ 5000
  l2 : c.ms.length ≤ 5000
  l3 : c.ds.length ≤ 5000
  n : ∀ p ∈ c.ps, p.n.size ≤ maxLen
  km : ∀ d ∈ c.ms, okKy (keyD d) ∧ d.ex.length ≤ 100000
  kd : ∀ d ∈ c.ds, okKy (keyD d) ∧ d.ex.length ≤ 100000
theorem under_ex {l m : List Dp} {n : Nat} (hl : ∀ d ∈ l, okKy (keyD d) ∧ d.ex.length ≤ n) (hm : ∀ d ∈ m, okKy (keyD d) ∧ d.ex.length ≤ n) : ∀ d ∈ underL l m, okKy (keyD d) ∧ d.ex.length ≤ n := by
  intro d hd
  unfold underL at hd
  rcases List.mem_append.1 hd with h | h
  · exact hl d h
  · exact hm d (List.mem_filter.1 h).1
/-- a merged project is handed back, in rows of one's own -/
def MgO (c p : Pm) (w : World) (e : Ending) (w' : World) : Prop := ∃ a b d, e = .returned (pmV a b d (mergeM c p)) ∧
  w'.ownsRow w.heap.size 36 2 a (mergeM c p).ps.length (rowPr (mergeM c p).ps) ∧ DsO w.heap.size w' b (mergeM c p).ms ∧ DsO w.heap.size w' d (mergeM c p).ds ∧ Below w.heap.size w w'
theorem merge_results (tmps : Array Value) (w : World) (R : Nat) (cs : Array Value) (hs : cs.size = 11) (h2 : tmps.getD 4 undef = .pointer (some ⟨R, 0, none⟩))
    (hR : w.heap[R]? = some (.cells cs 27 (0, 0))) :
    (results Try.f8 tmps).run Try.prog w = .ok (.agg cs) w := by
  have h2' : tmps[4]?.getD undef = .pointer (some ⟨R, 0, none⟩) := by simpa using h2
  have l1 := run_loadVar_row w R 27 27 cs (0, 0) _ hR Try.underlying27 rfl (by rw [hs]; kernel_rfl)
  simp [results, Try.results8, h2', asAddr, l1]
theorem own_rowty10 {w : World} {B e size n b t : Nat} {v : Value} {xs : List Value} {cs cs' : Array Value} (h : w.ownsRow B e size v n xs) (ho : w.heap[b]? = some (Obj.cells cs t (0, 0))) (ht : t ≠ e) : (w.setRow b cs').ownsRow B e size v n xs :=
  h.kept (⟨rfl, rfl, rfl, by simp, fun k _ hk => setRow_other w b k cs' (fun e => hk (by simp [e]))⟩ : w.grownBy (w.setRow b cs') (some b)) (own_ty10 h ho ht)
theorem DsO.rowty {w : World} {B b t : Nat} {v : Value} {l : List Dp} {cs cs' : Array Value} (h : DsO B w v l) (ho : w.heap[b]? = some (Obj.cells cs t (0, 0))) (ht : t ≠ 34) (ht2 : t ≠ 57) : DsO B (w.setRow b cs') v l := by
  obtain ⟨qs, h0, h1, h2⟩ := h
  exact ⟨qs, h0, own_rowty10 h1 ho ht, fun p hp => own_rowty10 (h2 p hp) ho ht2⟩
/-- C, P, R lie as they should -/
structure Bx3 (w : World) (C P R : Nat) (cs ps rs : Obj) (w' : World) : Prop where
  c : w'.heap[C]? = some cs
  p : w'.heap[P]? = some ps
  r : w'.heap[R]? = some rs
  b : Below C w w'
theorem Bx3.below {w : World} {C P R : Nat} {cs ps rs : Obj} {w' w'' : World} (h : Bx3 w C P R cs ps rs w') (hb : Below w'.heap.size w' w'') : Bx3 w C P R cs ps rs w'' :=
  ⟨(hb.block C (Array.getElem?_eq_some_iff.1 h.c).1).trans h.c, (hb.block P (Array.getElem?_eq_some_iff.1 h.p).1).trans h.p, (hb.block R (Array.getElem?_eq_some_iff.1 h.r).1).trans h.r, h.b.trans (hb.mono (Nat.le_of_lt (Array.getElem?_eq_some_iff.1 h.c).1))⟩
theorem Bx3.put {w : World} {C P R j : Nat} {ca : Array Value} {ps rs : Obj} {w' : World} (h : Bx3 w C P R (.cells ca 27 (0, 0)) ps rs w') (hp : P ≠ C) (hr : R ≠ C) (u : Value) : Bx3 w C P R (.cells (ca.setIfInBounds j u) 27 (0, 0)) ps rs (w'.setCell ⟨C, j, none⟩ u) :=
  ⟨heap_setCell_same w' C j _ _ u h.c, (heap_setCell_other w' ⟨C, j, none⟩ P u hp).trans h.p, (heap_setCell_other w' ⟨C, j, none⟩ R u hr).trans h.r, h.b.setCell (p := ⟨C, j, none⟩) (Nat.le_refl _) u⟩
set_option maxRecDepth 100000 in
set_option maxHeartbeats 8000000 in
theorem Merge_any (c p : Pm) (va vb vc va2 vb2 vc2 : Value) (w : World) (hc : RdP w va vb vc c) (hp : RdP w va2 vb2 vc2 p) (ho : OkP c) (ho2 : OkP p) :
    Calls Try.prog 8 #[pmV va vb vc c, pmV va2 vb2 vc2 p] w (MgO c p w) := by
  obtain ⟨psa, psc, rfl⟩ := RdSl.shape hc.p
  obtain ⟨msa, msc, rfl⟩ := RdSl.shape hc.m
  obtain ⟨dsa, dsc, rfl⟩ := RdSl.shape hc.d
  obtain ⟨qsa, qsc, rfl⟩ := RdSl.shape hp.p
  obtain ⟨nsa, nsc, rfl⟩ := RdSl.shape hp.m
  obtain ⟨esa, esc, rfl⟩ := RdSl.shape hp.d
  have HC := Lib.hid hc
  have HP := Lib.hid hp
  have HO := Lib.hid ho
  have HO2 := Lib.hid ho2
  clear hc hp ho ho2
  obtain ⟨hp, pg, pa, pv, g, a, v, pk, ps, ms, ds⟩ := c
  obtain ⟨hp2, pg2, pa2, pv2, g2, a2, v2, pk2, qs, ns, es⟩ := p
  unfold pmV
  dsimp only
  have hb0 : Below w.heap.size w (((w.alloc (.cells #[.bool hp, .string pg, .string pa, .string pv, .string g, .string a, .string v, .string pk, .slice psa ps.length psc, .slice msa ms.length msc, .slice dsa ds.length dsc] 27)).alloc (.cells #[.bool hp2, .string pg2, .string pa2, .string pv2, .string g2, .string a2, .string v2, .string pk2, .slice qsa qs.length qsc, .slice nsa ns.length nsc, .slice esa es.length esc] 27)).alloc (.cells #[.bool false, .string ⟨#[]⟩, .string ⟨#[]⟩, .string ⟨#[]⟩, .string ⟨#[]⟩, .string ⟨#[]⟩, .string ⟨#[]⟩, .string ⟨#[]⟩, .slice none 0 0, .slice none 0 0, .slice none 0 0] 27)) := (((Below.refl w.heap.size w).alloc (Nat.le_refl _) _).alloc (by simp) _).alloc (by simp; omega) _
  have hC : (((w.alloc (.cells #[.bool hp, .string pg, .string pa, .string pv, .string g, .string a, .string v, .string pk, .slice psa ps.length psc, .slice msa ms.length msc, .slice dsa ds.length dsc] 27)).alloc (.cells #[.bool hp2, .string pg2, .string pa2, .string pv2, .string g2, .string a2, .string v2, .string pk2, .slice qsa qs.length qsc, .slice nsa ns.length nsc, .slice esa es.length esc] 27)).alloc (.cells #[.bool false, .string ⟨#[]⟩, .string ⟨#[]⟩, .string ⟨#[]⟩, .string ⟨#[]⟩, .string ⟨#[]⟩, .string ⟨#[]⟩, .string ⟨#[]⟩, .slice none 0 0, .slice none 0 0, .slice none 0 0] 27)).heap[w.heap.size]? = some (.cells #[.bool hp, .string pg, .string pa, .string pv, .string g, .string a, .string v, .string pk, .slice psa ps.length psc, .slice msa ms.length msc, .slice dsa ds.length dsc] 27 (0, 0)) := (Below.heap_alloc _ _ _ (by simp; omega)).trans ((Below.heap_alloc _ _ _ (by simp)).trans (heap_alloc_new w _))
  have hP : (((w.alloc (.cells #[.bool hp, .string pg, .string pa, .string pv, .string g, .string a, .string v, .string pk, .slice psa ps.length psc, .slice msa ms.length msc, .slice dsa ds.length dsc] 27)).alloc (.cells #[.bool hp2, .string pg2, .string pa2, .string pv2, .string g2, .string a2, .string v2, .string pk2, .slice qsa qs.length qsc, .slice nsa ns.length nsc, .slice esa es.length esc] 27)).alloc (.cells #[.bool false, .string ⟨#[]⟩, .string ⟨#[]⟩, .string ⟨#[]⟩, .string ⟨#[]⟩, .string ⟨#[]⟩, .string ⟨#[]⟩, .string ⟨#[]⟩, .slice none 0 0, .slice none 0 0, .slice none 0 0] 27)).heap[w.heap.size + 1]? = some (.cells #[.bool hp2, .string pg2, .string pa2, .string pv2, .string g2, .string a2, .string v2, .string pk2, .slice qsa qs.length qsc, .slice nsa ns.length nsc, .slice esa es.length esc] 27 (0, 0)) := by
    have := heap_alloc_new (w.alloc (.cells #[.bool hp, .string pg, .string pa, .string pv, .string g, .string a, .string v, .string pk, .slice psa ps.length psc, .slice msa ms.length msc, .slice dsa ds.length dsc] 27)) (.cells #[.bool hp2, .string pg2, .string pa2, .string pv2, .string g2, .string a2, .string v2, .string pk2, .slice qsa qs.length qsc, .slice nsa ns.length nsc, .slice esa es.length esc] 27)
    refine (Below.heap_alloc _ _ _ (by simp)).trans ?_
    simpa using this
  have hR : (((w.alloc (.cells #[.bool hp, .string pg, .string pa, .string pv, .string g, .string a, .string v, .string pk, .slice psa ps.length psc, .slice msa ms.length msc, .slice dsa ds.length dsc] 27)).alloc (.cells #[.bool hp2, .string pg2, .string pa2, .string pv2, .string g2, .string a2, .string v2, .string pk2, .slice qsa qs.length qsc, .slice nsa ns.length nsc, .slice esa es.length esc] 27)).alloc (.cells #[.bool false, .string ⟨#[]⟩, .string ⟨#[]⟩, .string ⟨#[]⟩, .string ⟨#[]⟩, .string ⟨#[]⟩, .string ⟨#[]⟩, .string ⟨#[]⟩, .slice none 0 0, .slice none 0 0, .slice none 0 0] 27)).heap[w.heap.size + 2]? = some (.cells #[.bool false, .string ⟨#[]⟩, .string ⟨#[]⟩, .string ⟨#[]⟩, .string ⟨#[]⟩, .string ⟨#[]⟩, .string ⟨#[]⟩, .string ⟨#[]⟩, .slice none 0 0, .slice none 0 0, .slice none 0 0] 27 (0, 0)) := by
    have := heap_alloc_new ((w.alloc (.cells #[.bool hp, .string pg, .string pa, .string pv, .string g, .string a, .string v, .string pk, .slice psa ps.length psc, .slice msa ms.length msc, .slice dsa ds.length dsc] 27)).alloc (.cells #[.bool hp2, .string pg2, .string pa2, .string pv2, .string g2, .string a2, .string v2, .string pk2, .slice qsa qs.length qsc, .slice nsa ns.length nsc, .slice esa es.length esc] 27)) (.cells #[.bool false, .string ⟨#[]⟩, .string ⟨#[]⟩, .string ⟨#[]⟩, .string ⟨#[]⟩, .string ⟨#[]⟩, .string ⟨#[]⟩, .string ⟨#[]⟩, .slice none 0 0, .slice none 0 0, .slice none 0 0] 27)
    simpa using this
  have HB0 := Lib.hid hb0
  clear hb0
  go_enter Try.func8, Try.ntmps8
  go_upto_region 1 with fail
  generalize (((w.alloc (.cells #[.bool hp, .string pg, .string pa, .string pv, .string g, .string a, .string v, .string pk, .slice psa ps.length psc, .slice msa ms.length msc, .slice dsa ds.length dsc] 27)).alloc (.cells #[.bool hp2, .string pg2, .string pa2, .string pv2, .string g2, .string a2, .string v2, .string pk2, .slice qsa qs.length qsc, .slice nsa ns.length nsc, .slice esa es.length esc] 27)).alloc (.cells #[.bool false, .string ⟨#[]⟩, .string ⟨#[]⟩, .string ⟨#[]⟩, .string ⟨#[]⟩, .string ⟨#[]⟩, .string ⟨#[]⟩, .string ⟨#[]⟩, .slice none 0 0, .slice none 0 0, .slice none 0 0] 27)) = w1 at hC hP hR HB0 ⊢
  obtain ⟨P, hPe⟩ : ∃ b, b = w.heap.size + 1 := ⟨_, rfl⟩
  rw [← hPe] at hP
  obtain ⟨R, hRe⟩ : ∃ b, b = P + 1 := ⟨_, rfl⟩
  rw [show w.heap.size + 2 = R by omega] at hR
  simp only [← hPe, ← hRe]
  obtain ⟨C, hCe⟩ : ∃ b, b = w.heap.size := ⟨_, rfl⟩
  rw [← hCe] at hC
  simp only [← hCe]
  have HCE := Lib.hid hCe
  have HPC := Lib.hid (show P ≠ C by omega)
  have HRC := Lib.hid (show R ≠ C by omega)
  have HRG := Lib.hid (show C < P ∧ C < R by omega)
  have HX1 := Lib.hid (show Bx3 w C P R (.cells #[.bool hp, .string pg, .string pa, .string pv, .string g, .string a, .string v, .string pk, .slice psa ps.length psc, .slice msa ms.length msc, .slice dsa ds.length dsc] 27) (.cells #[.bool hp2, .string pg2, .string pa2, .string pv2, .string g2, .string a2, .string v2, .string pk2, .slice qsa qs.length qsc, .slice nsa ns.length nsc, .slice esa es.length esc] 27) (.cells #[.bool false, .string ⟨#[]⟩, .string ⟨#[]⟩, .string ⟨#[]⟩, .string ⟨#[]⟩, .string ⟨#[]⟩, .string ⟨#[]⟩, .string ⟨#[]⟩, .slice none 0 0, .slice none 0 0, .slice none 0 0] 27) w1 from ⟨hC, hP, hR, by rw [hCe]; exact HB0.out⟩)
  have c0 : w1.cell? ⟨C, 0, none⟩ = some (.bool hp) := by rw [cell_of_row w1 C 0 _ _ (0, 0) hC]; rfl
  have c1 : w1.cell? ⟨C, 1, none⟩ = some (.string pg) := by rw [cell_of_row w1 C 1 _ _ (0, 0) hC]; rfl
  have c2 : w1.cell? ⟨C, 2, none⟩ = some (.string pa) := by rw [cell_of_row w1 C 2 _ _ (0, 0) hC]; rfl
  have c3 : w1.cell? ⟨C, 3, none⟩ = some (.string pv) := by rw [cell_of_row w1 C 3 _ _ (0, 0) hC]; rfl
  have c4 : w1.cell? ⟨C, 4, none⟩ = some (.string g) := by rw [cell_of_row w1 C 4 _ _ (0, 0) hC]; rfl
  have c5 : w1.cell? ⟨C, 5, none⟩ = some (.string a) := by rw [cell_of_row w1 C 5 _ _ (0, 0) hC]; rfl
  have c6 : w1.cell? ⟨C, 6, none⟩ = some (.string v) := by rw [cell_of_row w1 C 6 _ _ (0, 0) hC]; rfl
  have c7 : w1.cell? ⟨C, 7, none⟩ = some (.string pk) := by rw [cell_of_row w1 C 7 _ _ (0, 0) hC]; rfl
  have c8 : w1.cell? ⟨C, 8, none⟩ = some (.slice psa ps.length psc) := by rw [cell_of_row w1 C 8 _ _ (0, 0) hC]; rfl
  have c9 : w1.cell? ⟨C, 9, none⟩ = some (.slice msa ms.length msc) := by rw [cell_of_row w1 C 9 _ _ (0, 0) hC]; rfl
  have c10 : w1.cell? ⟨C, 10, none⟩ = some (.slice dsa ds.length dsc) := by rw [cell_of_row w1 C 10 _ _ (0, 0) hC]; rfl
  clear hC hP hR hPe hRe hCe HB0
  go_cut [11] from 5 to 46 (fun t wx => t = .bool (hp && nilB g) ∧ wx = w1)
  case first =>
    cases hp
    case false =>
      go_wp2_with fail
      go_meet
      exact ⟨rfl, rfl⟩
    case true =>
      have HQ := Lib.hid (show g.toList.isEmpty = nilB g from rfl)
      go_wp2_with fail
      go_meet
      exact ⟨by simp [nilB], rfl⟩
  case rest =>
    obtain ⟨rfl, rfl⟩ := hcut
    obtain ⟨gz, hgz⟩ : ∃ gz, gz = gOf ⟨hp, pg, pa, pv, g, a, v, pk, ps, ms, ds⟩ := ⟨_, rfl⟩
    have HGZ := Lib.hid hgz
    have hgb : gz = if (hp && nilB g) = true then pg else g := hgz
    clear hgz
    generalize (hp && nilB g) = tb at hgb ⊢
    have HGB := Lib.hid hgb
    clear hgb
    have f4 := frozen_of_row wc C 4 _ _ HX1.out.c
    go_upto_if 11 with fail
    go_cut [] from 5 to 46 (fun wx => Bx3 w C P R (.cells #[.bool hp, .string pg, .string pa, .string pv, .string gz, .string a, .string v, .string pk, .slice psa ps.length psc, .slice msa ms.length msc, .slice dsa ds.length dsc] 27) (.cells #[.bool hp2, .string pg2, .string pa2, .string pv2, .string g2, .string a2, .string v2, .string pk2, .slice qsa qs.length qsc, .slice nsa ns.length nsc, .slice esa es.length esc] 27) (.cells #[.bool false, .string ⟨#[]⟩, .string ⟨#[]⟩, .string ⟨#[]⟩, .string ⟨#[]⟩, .string ⟨#[]⟩, .string ⟨#[]⟩, .string ⟨#[]⟩, .slice none 0 0, .slice none 0 0, .slice none 0 0] 27) wx)
    case first =>
      cases tb
      case false =>
        go_wp2_with fail
        go_meet
        rw [HGB.out]
        exact HX1.out
      case true =>
        have HS := Lib.hid (HX1.out.put (j := 4) HPC.out HRC.out (.string pg))
        go_wp2_with fail
        go_meet
        rw [HGB.out]
        exact HS.out
    case rest =>
      clear f4 HGB HX1 c0 c1 c2 c3 c4 c5 c6 c7 c8 c9 c10 tb
      have HX2 := Lib.hid hcut
      have c0 : wc.cell? ⟨C, 0, none⟩ = some (.bool hp) := by rw [cell_of_row wc C 0 _ _ (0, 0) hcut.c]; rfl
      have c1 : wc.cell? ⟨C, 1, none⟩ = some (.string pg) := by rw [cell_of_row wc C 1 _ _ (0, 0) hcut.c]; rfl
      have c2 : wc.cell? ⟨C, 2, none⟩ = some (.string pa) := by rw [cell_of_row wc C 2 _ _ (0, 0) hcut.c]; rfl
      have c3 : wc.cell? ⟨C, 3, none⟩ = some (.string pv) := by rw [cell_of_row wc C 3 _ _ (0, 0) hcut.c]; rfl
      have c4 : wc.cell? ⟨C, 4, none⟩ = some (.string gz) := by rw [cell_of_row wc C 4 _ _ (0, 0) hcut.c]; rfl
      have c5 : wc.cell? ⟨C, 5, none⟩ = some (.string a) := by rw [cell_of_row wc C 5 _ _ (0, 0) hcut.c]; rfl
      have c6 : wc.cell? ⟨C, 6, none⟩ = some (.string v) := by rw [cell_of_row wc C 6 _ _ (0, 0) hcut.c]; rfl
      have c7 : wc.cell? ⟨C, 7, none⟩ = some (.string pk) := by rw [cell_of_row wc C 7 _ _ (0, 0) hcut.c]; rfl
      have c8 : wc.cell? ⟨C, 8, none⟩ = some (.slice psa ps.length psc) := by rw [cell_of_row wc C 8 _ _ (0, 0) hcut.c]; rfl
      have c9 : wc.cell? ⟨C, 9, none⟩ = some (.slice msa ms.length msc) := by rw [cell_of_row wc C 9 _ _ (0, 0) hcut.c]; rfl
      have c10 : wc.cell? ⟨C, 10, none⟩ = some (.slice dsa ds.length dsc) := by rw [cell_of_row wc C 10 _ _ (0, 0) hcut.c]; rfl
      clear hcut
      go_upto_region 3 with fail
      go_cut [22] from 5 to 46 (fun t wx => t = .bool (hp && nilB v) ∧ wx = wc)
      case first =>
        cases hp
        case false =>
          go_wp2_with fail
          go_meet
          exact ⟨rfl, rfl⟩
        case true =>
          have HQ := Lib.hid (show v.toList.isEmpty = nilB v from rfl)
          go_wp2_with fail
          go_meet
          exact ⟨by simp [nilB], rfl⟩
      case rest =>
        obtain ⟨rfl, rfl⟩ := hcut
        obtain ⟨vz, hvz⟩ : ∃ vz, vz = vOf ⟨hp, pg, pa, pv, g, a, v, pk, ps, ms, ds⟩ := ⟨_, rfl⟩
        have HVZ := Lib.hid hvz
        have hvb : vz = if (hp && nilB v) = true then pv else v := hvz
        clear hvz
        generalize (hp && nilB v) = tb at hvb ⊢
        have HVB := Lib.hid hvb
        clear hvb
        have f6 := frozen_of_row wc C 6 _ _ HX2.out.c
        go_upto_if 22 with fail
        go_cut [] from 5 to 46 (fun wx => Bx3 w C P R (.cells #[.bool hp, .string pg, .string pa, .string pv, .string gz, .string a, .string vz, .string pk, .slice psa ps.length psc, .slice msa ms.length msc, .slice dsa ds.length dsc] 27) (.cells #[.bool hp2, .string pg2, .string pa2, .string pv2, .string g2, .string a2, .string v2, .string pk2, .slice qsa qs.length qsc, .slice nsa ns.length nsc, .slice esa es.length esc] 27) (.cells #[.bool false, .string ⟨#[]⟩, .string ⟨#[]⟩, .string ⟨#[]⟩, .string ⟨#[]⟩, .string ⟨#[]⟩, .string ⟨#[]⟩, .string ⟨#[]⟩, .slice none 0 0, .slice none 0 0, .slice none 0 0] 27) wx)
        case first =>
          cases tb
          case false =>
            go_wp2_with fail
            go_meet
            rw [HVB.out]
            exact HX2.out
          case true =>
            have HS := Lib.hid (HX2.out.put (j := 6) HPC.out HRC.out (.string pv))
            go_wp2_with fail
            go_meet
            rw [HVB.out]
            exact HS.out
        case rest =>
          clear f6 HVB HX2 c0 c1 c2 c3 c4 c5 c6 c7 c8 c9 c10 tb
          have HX3 := Lib.hid hcut
          have c8 : wc.cell? ⟨C, 8, none⟩ = some (.slice psa ps.length psc) := by rw [cell_of_row wc C 8 _ _ (0, 0) hcut.c]; rfl
          have p8 : wc.cell? ⟨P, 8, none⟩ = some (.slice qsa qs.length qsc) := by rw [cell_of_row wc P 8 _ _ (0, 0) hcut.p]; rfl
          have HBc := Lib.hid (show Below w.heap.size w wc by rw [← HCE.out]; exact hcut.b)
          have HOP := Lib.hid (Over_any qs ps _ _ w wc HP.out.p HC.out.p HBc.out (by have := HO2.out.l1; dsimp only at this; omega) (by have := HO.out.l1; dsimp only at this; omega) HO2.out.n HO.out.n)
          clear hcut
          go_wp2_with fail
          refine HOP.out.mono ?_
          rintro e w3 ⟨u3, rfl, hown3, hb3⟩
          obtain ⟨u3a, u3c, rfl⟩ := RdSl.shape (RdPs.of_own hown3)
          clear c8 p8 HOP
          have hx3 := HX3.out.below hb3
          have hlt := (Array.getElem?_eq_some_iff.1 HX3.out.c).1
          have f8 := frozen_of_row w3 C 8 _ _ hx3.c
          have q8 : w3.cell? ⟨C, 8, none⟩ = some (.slice psa ps.length psc) := by rw [cell_of_row w3 C 8 _ _ (0, 0) hx3.c]; rfl
          generalize hov : over qs ps = ov at hown3
          have HOV := Lib.hid hov
          have HX4 := Lib.hid (hx3.put (j := 8) HPC.out HRC.out (.slice u3a ov.length u3c))
          have HA4 := Lib.hid (own_set10 (O := C) (j := 8) (u := .slice u3a ov.length u3c) hown3 hlt)
          have HLT := Lib.hid (show C < wc.heap.size from hlt)
          clear hov hx3 hlt hown3 hb3
          go_upto_region 6 with fail
          generalize w3.setCell ⟨C, 8, none⟩ (.slice u3a ov.length u3c) = w4 at HX4 HA4 ⊢
          clear f8 q8 HX3
          have hx4 : Bx3 w C P R (.cells #[.bool hp, .string pg, .string pa, .string pv, .string gz, .string a, .string vz, .string pk, .slice u3a ov.length u3c, .slice msa ms.length msc, .slice dsa ds.length dsc] 27) (.cells #[.bool hp2, .string pg2, .string pa2, .string pv2, .string g2, .string a2, .string v2, .string pk2, .slice qsa qs.length qsc, .slice nsa ns.length nsc, .slice esa es.length esc] 27) (.cells #[.bool false, .string ⟨#[]⟩, .string ⟨#[]⟩, .string ⟨#[]⟩, .string ⟨#[]⟩, .string ⟨#[]⟩, .string ⟨#[]⟩, .string ⟨#[]⟩, .slice none 0 0, .slice none 0 0, .slice none 0 0] 27) w4 := HX4.out
          have HX4 := Lib.hid hx4
          have c9 : w4.cell? ⟨C, 9, none⟩ = some (.slice msa ms.length msc) := by rw [cell_of_row w4 C 9 _ _ (0, 0) hx4.c]; rfl
          have p9 : w4.cell? ⟨P, 9, none⟩ = some (.slice nsa ns.length nsc) := by rw [cell_of_row w4 P 9 _ _ (0, 0) hx4.p]; rfl
          have HB4 := Lib.hid (show Below w.heap.size w w4 by rw [← HCE.out]; exact hx4.b)
          have HOP := Lib.hid (Under_any ms ns _ _ w w4 HC.out.m HP.out.m HB4.out (by have := HO.out.l2; dsimp only at this; omega) (by have := HO2.out.l2; dsimp only at this; omega) (fun d hd => (HO.out.km d hd).1) (fun d hd => (HO2.out.km d hd).1) (fun d hd => (under_ex HO.out.km HO2.out.km d hd).2))
          clear hx4
          go_wp2_with fail
          refine HOP.out.mono ?_
          rintro e w5 ⟨u5, rfl, hu5, hb5⟩
          obtain ⟨u5a, u5c, rfl⟩ := hu5.shape
          clear c9 p9 HOP
          have hx5 := HX4.out.below hb5
          have hlt := (Array.getElem?_eq_some_iff.1 HX4.out.c).1
          have f9 := frozen_of_row w5 C 9 _ _ hx5.c
          have q9 : w5.cell? ⟨C, 9, none⟩ = some (.slice msa ms.length msc) := by rw [cell_of_row w5 C 9 _ _ (0, 0) hx5.c]; rfl
          generalize hum : underL ms ns = um at hu5
          have HUM := Lib.hid hum
          have HX6 := Lib.hid (hx5.put (j := 9) HPC.out HRC.out (.slice u5a um.length u5c))
          have HA6 := Lib.hid (own_set10 (O := C) (j := 9) (u := .slice u5a um.length u5c) (own_below10 HA4.out hb5) HLT.out)
          have HM6 := Lib.hid ((hu5.put (O := C) (j := 9) (u := .slice u5a um.length u5c) hlt).mono (B' := C + 1) hlt)
          clear hum hx5 hlt hu5 hb5
          go_upto_region 7 with fail
          generalize w5.setCell ⟨C, 9, none⟩ (.slice u5a um.length u5c) = w6 at HX6 HA6 HM6 ⊢
          clear f9 q9 HX4 HA4 HB4
          have hx6 : Bx3 w C P R (.cells #[.bool hp, .string pg, .string pa, .string pv, .string gz, .string a, .string vz, .string pk, .slice u3a ov.length u3c, .slice u5a um.length u5c, .slice dsa ds.length dsc] 27) (.cells #[.bool hp2, .string pg2, .string pa2, .string pv2, .string g2, .string a2, .string v2, .string pk2, .slice qsa qs.length qsc, .slice nsa ns.length nsc, .slice esa es.length esc] 27) (.cells #[.bool false, .string ⟨#[]⟩, .string ⟨#[]⟩, .string ⟨#[]⟩, .string ⟨#[]⟩, .string ⟨#[]⟩, .string ⟨#[]⟩, .string ⟨#[]⟩, .slice none 0 0, .slice none 0 0, .slice none 0 0] 27) w6 := HX6.out
          have HX6 := Lib.hid hx6
          have c10 : w6.cell? ⟨C, 10, none⟩ = some (.slice dsa ds.length dsc) := by rw [cell_of_row w6 C 10 _ _ (0, 0) hx6.c]; rfl
          have p10 : w6.cell? ⟨P, 10, none⟩ = some (.slice esa es.length esc) := by rw [cell_of_row w6 P 10 _ _ (0, 0) hx6.p]; rfl
          have HB6 := Lib.hid (show Below w.heap.size w w6 by rw [← HCE.out]; exact hx6.b)
          have HOP := Lib.hid (Under_any ds es _ _ w w6 HC.out.d HP.out.d HB6.out (by have := HO.out.l3; dsimp only at this; omega) (by have := HO2.out.l3; dsimp only at this; omega) (fun d hd => (HO.out.kd d hd).1) (fun d hd => (HO2.out.kd d hd).1) (fun d hd => (under_ex HO.out.kd HO2.out.kd d hd).2))
          clear hx6
          go_wp2_with fail
          refine HOP.out.mono ?_
          rintro e w7 ⟨u7, rfl, hu7, hb7⟩
          obtain ⟨u7a, u7c, rfl⟩ := hu7.shape
          clear c10 p10 HOP
          have hx7 := HX6.out.below hb7
          have hlt := (Array.getElem?_eq_some_iff.1 HX6.out.c).1
          have f10 := frozen_of_row w7 C 10 _ _ hx7.c
          have q10 : w7.cell? ⟨C, 10, none⟩ = some (.slice dsa ds.length dsc) := by rw [cell_of_row w7 C 10 _ _ (0, 0) hx7.c]; rfl
          generalize hud : underL ds es = ud at hu7
          have HUD := Lib.hid hud
          have HX8 := Lib.hid (hx7.put (j := 10) HPC.out HRC.out (.slice u7a ud.length u7c))
          have HA8 := Lib.hid (own_set10 (O := C) (j := 10) (u := .slice u7a ud.length u7c) (own_below10 HA6.out hb7) HLT.out)
          have HM8 := Lib.hid ((HM6.out.below hb7).put (O := C) (j := 10) (u := .slice u7a ud.length u7c) (Nat.lt_succ_self C))
          have HD8 := Lib.hid ((hu7.put (O := C) (j := 10) (u := .slice u7a ud.length u7c) hlt).mono (B' := C + 1) hlt)
          clear hud hx7 hlt hu7 hb7
          go_upto_region 8 with fail
          generalize w7.setCell ⟨C, 10, none⟩ (.slice u7a ud.length u7c) = w8 at HX8 HA8 HM8 HD8 ⊢
          clear f10 q10 HX6 HA6 HM6 HB6
          have hx8 : Bx3 w C P R (.cells #[.bool hp, .string pg, .string pa, .string pv, .string gz, .string a, .string vz, .string pk, .slice u3a ov.length u3c, .slice u5a um.length u5c, .slice u7a ud.length u7c] 27) (.cells #[.bool hp2, .string pg2, .string pa2, .string pv2, .string g2, .string a2, .string v2, .string pk2, .slice qsa qs.length qsc, .slice nsa ns.length nsc, .slice esa es.length esc] 27) (.cells #[.bool false, .string ⟨#[]⟩, .string ⟨#[]⟩, .string ⟨#[]⟩, .string ⟨#[]⟩, .string ⟨#[]⟩, .string ⟨#[]⟩, .string ⟨#[]⟩, .slice none 0 0, .slice none 0 0, .slice none 0 0] 27) w8 := HX8.out
          have HX8 := Lib.hid hx8
          have c0 : w8.cell? ⟨C, 0, none⟩ = some (.bool hp) := by rw [cell_of_row w8 C 0 _ _ (0, 0) hx8.c]; rfl
          have c1 : w8.cell? ⟨C, 1, none⟩ = some (.string pg) := by rw [cell_of_row w8 C 1 _ _ (0, 0) hx8.c]; rfl
          have c2 : w8.cell? ⟨C, 2, none⟩ = some (.string pa) := by rw [cell_of_row w8 C 2 _ _ (0, 0) hx8.c]; rfl
          have c3 : w8.cell? ⟨C, 3, none⟩ = some (.string pv) := by rw [cell_of_row w8 C 3 _ _ (0, 0) hx8.c]; rfl
          have c4 : w8.cell? ⟨C, 4, none⟩ = some (.string gz) := by rw [cell_of_row w8 C 4 _ _ (0, 0) hx8.c]; rfl
          have c5 : w8.cell? ⟨C, 5, none⟩ = some (.string a) := by rw [cell_of_row w8 C 5 _ _ (0, 0) hx8.c]; rfl
          have c6 : w8.cell? ⟨C, 6, none⟩ = some (.string vz) := by rw [cell_of_row w8 C 6 _ _ (0, 0) hx8.c]; rfl
          have c7 : w8.cell? ⟨C, 7, none⟩ = some (.string pk) := by rw [cell_of_row w8 C 7 _ _ (0, 0) hx8.c]; rfl
          have c8 : w8.cell? ⟨C, 8, none⟩ = some (.slice u3a ov.length u3c) := by rw [cell_of_row w8 C 8 _ _ (0, 0) hx8.c]; rfl
          have c9 : w8.cell? ⟨C, 9, none⟩ = some (.slice u5a um.length u5c) := by rw [cell_of_row w8 C 9 _ _ (0, 0) hx8.c]; rfl
          have c10 : w8.cell? ⟨C, 10, none⟩ = some (.slice u7a ud.length u7c) := by rw [cell_of_row w8 C 10 _ _ (0, 0) hx8.c]; rfl
          have HR8 := Lib.hid hx8.r
          clear hx8
          have hbz := Lib.hid (show Below w.heap.size w w8 by rw [← HCE.out]; exact HX8.out.b)
          go_wp2_with (refine wpList_store_row rfl 27 _ _ rfl R #[.bool hp, .string pg, .string pa, .string pv, .string gz, .string a, .string vz, .string pk, .slice u3a ov.length u3c, .slice u5a um.length u5c, .slice u7a ud.length u7c] rfl rfl 27 _ HR8.out (by kernel_rfl) rfl (by simp [Value.oneCell']) ?_)
          refine bodyPost_ret (merge_results _ _ R #[.bool hp, .string pg, .string pa, .string pv, .string gz, .string a, .string vz, .string pk, .slice u3a ov.length u3c, .slice u5a um.length u5c, .slice u7a ud.length u7c] rfl rfl (setRow_heap _ R _ _ _ _ HR8.out)) rfl ?_
          have HBZ := Lib.hid (below_setRow10 (cs := #[.bool hp, .string pg, .string pa, .string pv, .string gz, .string a, .string vz, .string pk, .slice u3a ov.length u3c, .slice u5a um.length u5c, .slice u7a ud.length u7c]) hbz.out (by rw [← HCE.out]; exact Nat.le_of_lt HRG.out.2))
          refine ⟨_, _, _, refmg_ret HGZ.out.symm HVZ.out.symm, ?_, ?_, ?_, HBZ.out⟩
          · show World.ownsRow _ _ _ _ _ (over qs ps).length (rowPr (over qs ps))
            rw [HOV.out]
            exact own_mono10 (own_rowty10 HA8.out HR8.out (by decide)) (by rw [← HCE.out]; exact Nat.le_of_lt HLT.out)
          · show DsO _ _ _ (underL ms ns)
            rw [HUM.out]
            exact (HM8.out.rowty HR8.out (by decide) (by decide)).mono (by rw [← HCE.out]; omega)
          · show DsO _ _ _ (underL ds es)
            rw [HUD.out]
            exact (HD8.out.rowty HR8.out (by decide) (by decide)).mono (by rw [← HCE.out]; omega)
end Go.Proofs.Ytjkmmmmbdfcnbaa
