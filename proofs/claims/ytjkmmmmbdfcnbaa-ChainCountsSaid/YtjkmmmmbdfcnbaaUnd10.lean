/-
  Layer 10: rows of exclusions of one's own. Own work.
-/
import Derived.Test.YtjkmmmmbdfcnbaaLaid10
import Derived.Test.YtjkmmmmbdfcnbaaMrg10
namespace Go.Proofs.Ytjkmmmmbdfcnbaa
set_option linter.unusedVariables false
set_option linter.unusedSimpArgs false
open Go.RowKit

theorem add_off10 (g i : Nat) : (⟨g, 0, none⟩ : Addr).add i = ⟨g, i, none⟩ := by unfold Addr.add; split <;> simp_all
def ixL (p : Ix) : List Value := [.string p.g, .string p.a]
def rowIx (l : List Ix) : List Value := l.flatMap ixL
theorem rowIx_len : ∀ l : List Ix, (rowIx l).length = l.length * 2
  | [] => rfl
  | e :: l => by
    have := rowIx_len l
    simp only [rowIx, List.flatMap_cons, List.length_append, List.length_cons, ixL, List.length_nil] at this ⊢
    omega
theorem rowIx_at : ∀ (l : List Ix) (i c : Nat) (p : Ix), l[i]? = some p → c < 2 → (rowIx l)[i * 2 + c]? = (ixL p)[c]?
  | [], i, c, p, h, _ => by simp at h
  | q :: l, 0, c, p, h, hc => by
    simp only [List.getElem?_cons_zero, Option.some.injEq] at h
    subst h
    simp only [rowIx, List.flatMap_cons]
    rw [List.getElem?_append_left (by simp [ixL]; omega)]
    simp
  | q :: l, i + 1, c, p, h, hc => by
    have := rowIx_at l i c p (by simpa using h) hc
    simp only [rowIx, List.flatMap_cons] at this ⊢
    rw [List.getElem?_append_right (by simp [ixL]; omega), ← this]
    congr 1
    simp [ixL]; omega
theorem RdXs.raw {w : World} {v : Value} {l : List Ix} (h : RdXs w v l) : Raw w 2 v l.length (rowIx l) := by
  refine ⟨rowIx_len l, ?_⟩
  rcases h with ⟨h1, h2⟩ | ⟨a, cap, h1, h2, h3, h4⟩
  · exact .inl ⟨h1, by rw [h2]; rfl⟩
  · refine .inr ⟨a, cap, h1, h2, h3, fun j u hu => ?_⟩
    have hj : j < l.length * 2 := by rw [← rowIx_len]; exact (List.getElem?_eq_some_iff.1 hu).1
    obtain ⟨x, hx⟩ : ∃ x, l[j / 2]? = some x := ⟨_, List.getElem?_eq_getElem (by omega)⟩
    have hp := h4 (j / 2) x hx
    rcases Nat.mod_two_eq_zero_or_one j with hm | hm
    · have e : j = j / 2 * 2 + 0 := by omega
      rw [e, rowIx_at l _ 0 x hx (by omega)] at hu
      simp only [ixL, List.getElem?_cons_zero, Option.some.injEq] at hu
      subst hu
      rw [show j = j / 2 * 2 by omega]; exact hp.1
    · have e : j = j / 2 * 2 + 1 := by omega
      rw [e, rowIx_at l _ 1 x hx (by omega)] at hu
      simp only [ixL, List.getElem?_cons_succ, List.getElem?_cons_zero, Option.some.injEq] at hu
      subst hu
      rw [e, ← Go.Deep.add_add]
      exact hp.2
theorem RdXs.of_own {w : World} {v : Value} {l : List Ix} {base e : Nat} (h : w.ownsRow base e 2 v l.length (rowIx l)) : RdXs w v l := by
  have h0 := h
  obtain ⟨_, hc⟩ := h
  rcases hc with ⟨rfl, hn⟩ | ⟨g, cap, cur, rfl, _, hg, hn, hcm, _, _⟩
  · exact .inl ⟨rfl, List.eq_nil_of_length_eq_zero hn⟩
  · refine .inr ⟨⟨g, 0, none⟩, cap, rfl, hn, by unfold maxLen at hcm; exact hcm, fun i x hx => ⟨?_, ?_⟩⟩
    · have h1 := h0.cells (g := g) rfl _ _ ((rowIx_at l i 0 x hx (by omega)).trans rfl)
      exact h1
    · have h1 := h0.cells (g := g) rfl _ _ ((rowIx_at l i 1 x hx (by omega)).trans rfl)
      rw [← Go.Deep.add_add] at h1
      exact h1
theorem rowD_set : ∀ (l : List (Dp × Value)) (i : Nat) (p : Dp × Value) (v : Value), l[i]? = some p → rowD (l.set i (p.1, v)) = (rowD l).set (i * 8 + 7) v
  | [], i, p, v, h => by simp at h
  | q :: l, 0, p, v, h => by
    simp only [List.getElem?_cons_zero, Option.some.injEq] at h
    subst h
    simp [rowD, dpL]
  | q :: l, i + 1, p, v, h => by
    have := rowD_set l i p v (by simpa using h)
    simp only [rowD, List.set_cons_succ, List.flatMap_cons] at this ⊢
    rw [this, List.set_append_right _ _ (by simp [dpL]; omega)]
    congr 2
    simp [dpL]; omega
theorem map_set (l : List (Dp × Value)) (i : Nat) (p : Dp × Value) (v : Value) (h : l[i]? = some p) : (l.set i (p.1, v)).map (·.1) = l.map (·.1) := by
  rw [List.map_set]
  apply List.ext_getElem?
  intro j
  rw [List.getElem?_set]
  split
  · rename_i e
    subst e
    rw [List.getElem?_map, h]
    have := (List.getElem?_eq_some_iff.1 h).1
    simp [this]
  · rfl
section
variable {w : World} {B e size n b j t : Nat} {v u : Value} {xs : List Value} {cs : Array Value}
theorem own_ty10 (h : w.ownsRow B e size v n xs) (ho : w.heap[b]? = some (Obj.cells cs t (0, 0))) (ht : t ≠ e) : v.ownBlock = none ∨ v.ownBlock ≠ some b := by
  rcases h.2 with ⟨rfl, _⟩ | ⟨g, cap, cur, rfl, _, hg, _⟩
  · exact .inl rfl
  · refine .inr (fun hb => ?_)
    simp [Value.ownBlock] at hb
    subst hb
    rw [ho] at hg
    simp at hg
    exact ht hg.2
theorem own_setty10 (h : w.ownsRow B e size v n xs) (ho : w.heap[b]? = some (Obj.cells cs t (0, 0))) (ht : t ≠ e) : (w.setCell ⟨b, j, none⟩ u).ownsRow B e size v n xs :=
  h.kept (⟨rfl, rfl, rfl, by simp, fun k _ hk => heap_setCell_other w ⟨b, j, none⟩ k u (fun e => hk (by simp [e]))⟩ : w.grownBy (w.setCell ⟨b, j, none⟩ u) (some b)) (own_ty10 h ho ht)
end
/-- dependencies in a row of one's own, with exclusions of one's own -/
def DsO (B : Nat) (w : World) (v : Value) (l : List Dp) : Prop := ∃ qs : List (Dp × Value), qs.map (·.1) = l ∧ w.ownsRow B 34 8 v qs.length (rowD qs) ∧ ∀ p ∈ qs, w.ownsRow B 57 2 p.2 p.1.ex.length (rowIx p.1.ex)
section
variable {w w' : World} {B B' O j : Nat} {v u : Value} {l : List Dp} {cs : Array Value}
theorem DsO.rd (h : DsO B w v l) : RdDs w v l := by
  obtain ⟨qs, rfl, h1, h2⟩ := h
  exact RdDs.of_own h1 fun p hp => RdXs.of_own (h2 p hp)
theorem DsO.below (h : DsO B w v l) (hb : Below w.heap.size w w') : DsO B w' v l := by
  obtain ⟨qs, h0, h1, h2⟩ := h
  exact ⟨qs, h0, own_below10 h1 hb, fun p hp => own_below10 (h2 p hp) hb⟩
theorem DsO.put (h : DsO B w v l) (hO : O < B) : DsO B (w.setCell ⟨O, j, none⟩ u) v l := by
  obtain ⟨qs, h0, h1, h2⟩ := h
  exact ⟨qs, h0, own_set10 h1 hO, fun p hp => own_set10 (h2 p hp) hO⟩
theorem DsO.row (h : DsO B w v l) (hO : O < B) : DsO B (w.setRow O cs) v l := by
  obtain ⟨qs, h0, h1, h2⟩ := h
  exact ⟨qs, h0, own_row10 h1 hO, fun p hp => own_row10 (h2 p hp) hO⟩
theorem DsO.mono (h : DsO B w v l) (hB : B' ≤ B) : DsO B' w v l := by
  obtain ⟨qs, h0, h1, h2⟩ := h
  exact ⟨qs, h0, own_mono10 h1 hB, fun p hp => own_mono10 (h2 p hp) hB⟩
theorem DsO.shape (h : DsO B w v l) : ∃ a c, v = .slice a l.length c := RdSl.shape h.rd
end
def UnO (l m : List Dp) (w : World) (e : Ending) (w' : World) : Prop := ∃ v, e = .returned v ∧ DsO w.heap.size w' v (underL l m) ∧ Below w.heap.size w w'
set_option maxRecDepth 100000 in
set_option maxHeartbeats 8000000 in
theorem Under_any (l m : List Dp) (va vb : Value) (w0 w : World) (ha : RdDs w0 va l) (hb : RdDs w0 vb m) (h0 : Below w0.heap.size w0 w) (hl : l.length ≤ 10000) (hm : m.length ≤ 10000)
    (hka : ∀ d ∈ l, okKy (keyD d)) (hkb : ∀ d ∈ m, okKy (keyD d)) (hex : ∀ d ∈ underL l m, d.ex.length ≤ 100000) :
    Calls Try.prog 17 #[va, vb] w (UnO l m w) := by
  have HOP := Lib.hid (laid_any l m va vb w0 w ha hb h0 hl hm hka hkb)
  have hul := underL_len l m
  have hulI : ((underL l m).length : Int) ≤ 20000 := by omega
  have HUL := Lib.hid hul
  have H0 := Lib.hid h0
  have HEX := Lib.hid hex
  clear ha hb h0 hka hkb hex hul
  go_enter Try.func17, Try.ntmps17
  go_wp2_with fail
  refine HOP.out.mono ?_
  rintro e w2 ⟨v2, rfl, hds, hb2⟩
  obtain ⟨v2a, v2c, rfl⟩ := hds.shape
  have HB2 := Lib.hid hb2
  have HDS := Lib.hid hds
  clear hb2 hds HOP
  obtain ⟨U, hU⟩ : ∃ U, U = underL l m := ⟨_, rfl⟩
  rw [← hU] at HDS HUL HEX hulI ⊢
  have HU := Lib.hid hU
  clear hU
  go_wp2_with fail
  go_loopw [13] (fun i wr => ∃ (k : Nat) (qs : List (Dp × Value)), k ≤ U.length ∧ i = .int .i64 k ∧ qs.map (·.1) = U ∧ wr.ownsRow w.heap.size 34 8 (.slice v2a U.length v2c) U.length (rowD qs) ∧
    (∀ (j : Nat) p, qs[j]? = some p → (j < k → wr.ownsRow w.heap.size 57 2 p.2 p.1.ex.length (rowIx p.1.ex)) ∧ (k ≤ j → RdXs w0 p.2 p.1.ex)) ∧ Below w.heap.size w wr) (fun i _ => U.length - (intOf i).toNat)
  case atStart =>
    obtain ⟨qs, h1, h2, h3⟩ := HDS.out
    exact ⟨0, qs, by omega, rfl, h1, by rw [← h1, List.length_map]; rw [← h1, List.length_map] at h2; exact h2, fun j p hp => ⟨fun h => absurd h (by omega), fun _ => h3 p (List.mem_of_getElem? hp)⟩, HB2.out⟩
  case round =>
    obtain ⟨k, qs, hk, rfl, hqs, hown, hex, hbw⟩ := hrel
    have HQS := Lib.hid hqs
    have HOW := Lib.hid hown
    have HXQ := Lib.hid hex
    have HBW := Lib.hid hbw
    have HQL := Lib.hid (show qs.length = U.length by rw [← hqs, List.length_map])
    clear hqs hown hex
    by_cases hlt : k < U.length
    · obtain ⟨p, hp⟩ : ∃ p, qs[k]? = some p := ⟨_, List.getElem?_eq_getElem (by rw [HQL.out]; exact hlt)⟩
      obtain ⟨d, ex⟩ := p
      have hrx := (HXQ.out k _ hp).2 (Nat.le_refl _)
      dsimp only at hrx
      obtain ⟨xa, xc, rfl⟩ := RdSl.shape hrx
      obtain ⟨g, rfl⟩ : ∃ g, v2a = some ⟨g, 0, none⟩ := by
        rcases HOW.out.2 with ⟨h1, h2⟩ | ⟨g, cap, cur, h1, _⟩
        · omega
        · cases h1; exact ⟨g, rfl⟩
      have hc : ∀ (c : Nat) u, (dpL d (.slice xa d.ex.length xc))[c]? = some u → wr.cell? ⟨g, k * 8 + c, none⟩ = some u := fun c u hu => by
        rw [← add_off10]
        exact HOW.out.cells (g := g) rfl _ _ ((rowD_at qs k c _ hp (by have := (List.getElem?_eq_some_iff.1 hu).1; simpa [dpL] using this)).trans hu)
      have c0 : wr.cell? ⟨g, k * 8, none⟩ = some (.string d.g) := hc 0 _ rfl
      have c1 := hc 1 _ rfl
      have c2 := hc 2 _ rfl
      have c3 := hc 3 _ rfl
      have c4 := hc 4 _ rfl
      have c5 := hc 5 _ rfl
      have c6 := hc 6 _ rfl
      have c7 := hc 7 _ rfl
      have HP := Lib.hid hp
      have HRX := Lib.hid hrx
      clear hp hrx hc
      go_upto_region 5 with fail
      have hbb : Below wr.heap.size wr (wr.alloc (.cells #[.string d.g, .string d.a, .string d.v, .string d.t, .string d.c, .int .i64 d.sc, .int .i64 d.op, .slice xa d.ex.length xc] 34)) := (Below.refl _ _).alloc (Nat.le_refl _) _
      have hnew := heap_alloc_new wr (.cells #[.string d.g, .string d.a, .string d.v, .string d.t, .string d.c, .int .i64 d.sc, .int .i64 d.op, .slice xa d.ex.length xc] 34)
      have HBB := Lib.hid hbb
      clear hbb
      generalize wr.alloc (.cells #[.string d.g, .string d.a, .string d.v, .string d.t, .string d.c, .int .i64 d.sc, .int .i64 d.op, .slice xa d.ex.length xc] 34) = wb at hnew HBB ⊢
      obtain ⟨KB, hKB⟩ : ∃ b, b = wr.heap.size := ⟨_, rfl⟩
      rw [← hKB] at hnew ⊢
      clear hKB c0 c1 c2 c3 c4 c5 c6 c7
      have r7 : wb.cell? ⟨KB, 7, none⟩ = some (.slice xa d.ex.length xc) := by rw [cell_of_row wb KB 7 _ _ (0, 0) hnew]; rfl
      have HBB0 := Lib.hid (HBW.out.trans (HBB.out.mono HBW.out.size))
      have hraw := (RdXs.raw HRX.out).below (H0.out.trans (HBB0.out.mono H0.out.size)) (Nat.le_refl _)
      have HCL := Lib.hid (CloneI_any (.slice xa d.ex.length xc) d.ex.length (rowIx d.ex) wb hraw (HEX.out d (by rw [← HQS.out]; exact List.mem_map.2 ⟨_, List.mem_of_getElem? HP.out, rfl⟩)))
      clear hnew hraw
      go_wp2_with fail
      refine HCL.out.mono ?_
      rintro e w4 ⟨v4, rfl, hown4, hb4⟩
      obtain ⟨v4a, v4c, rfl⟩ := RdSl.shape (RdXs.of_own hown4)
      have HD4 := Lib.hid (own_below10 (own_below10 HOW.out HBB.out) hb4)
      obtain ⟨cur, hcur⟩ : ∃ cur, w4.heap[g]? = some (Obj.cells cur 34 (0, 0)) := by
        rcases HD4.out.2 with ⟨h0, _⟩ | ⟨g', cap', cur, h1, _, h3, _⟩
        · cases h0
        · cases h1; exact ⟨cur, h3⟩
      have hge : w.heap.size ≤ g := (HD4.out.lt g rfl).1
      have f7 := frozen_of_row w4 g (k * 8 + 7) _ _ hcur
      have q7 : w4.cell? ⟨g, k * 8 + 7, none⟩ = some (.slice xa d.ex.length xc) := by
        have h1 := HD4.out.cells (g := g) rfl _ _ ((rowD_at qs k 7 _ HP.out (by omega)).trans rfl)
        rw [add_off10] at h1
        exact h1
      have HPUT := Lib.hid (own_put (u := .slice v4a d.ex.length v4c) HD4.out (j := k * 8 + 7) (by omega))
      have HI4 := Lib.hid (own_setty10 (j := k * 8 + 7) (u := .slice v4a d.ex.length v4c) (own_mono10 hown4 HBB0.out.size) hcur (show (34 : Nat) ≠ 57 by decide))
      have HX5 := Lib.hid (fun (B : Nat) (e : Nat) (sz n : Nat) (v : Value) (xs : List Value) (h : wr.ownsRow B e sz v n xs) (ht : (34 : Nat) ≠ e) => own_setty10 (j := k * 8 + 7) (u := .slice v4a d.ex.length v4c) (own_below10 (own_below10 h HBB.out) hb4) hcur ht)
      have HB5 := Lib.hid ((HBB0.out.trans (hb4.mono HBB0.out.size)).setCell (p := ⟨g, k * 8 + 7, none⟩) hge (.slice v4a d.ex.length v4c))
      have hkI : (k : Int) < (U.length : Int) := by omega
      clear hown4 hb4 hcur hge r7 HCL
      go_wp2
      go_roundw
      case rel =>
        refine ⟨k + 1, qs.set k (d, .slice v4a d.ex.length v4c), by omega, by go_num, (map_set qs k _ _ HP.out).trans HQS.out, by rw [rowD_set qs k _ _ HP.out]; exact HPUT.out, fun j p hp => ?_, HB5.out⟩
        rw [List.getElem?_set] at hp
        by_cases hj : k = j
        · subst hj
          rw [if_pos rfl] at hp
          split at hp
          · cases hp
            exact ⟨fun _ => HI4.out, fun h => absurd h (by omega)⟩
          · cases hp
        · rw [if_neg hj] at hp
          exact ⟨fun h => HX5.out _ _ _ _ _ _ ((HXQ.out j p hp).1 (by omega)) (by decide), fun h => (HXQ.out j p hp).2 (by omega)⟩
      case measure => simp [intOf]; omega
    · have hle : (U.length : Int) ≤ k := by omega
      have HRD := Lib.hid (show DsO w.heap.size wr (.slice v2a U.length v2c) U from ⟨qs, HQS.out, by rw [HQL.out]; exact HOW.out, fun p hp => by
        obtain ⟨j, hj⟩ := List.mem_iff_getElem?.1 hp
        exact (HXQ.out j p hj).1 (by have := (List.getElem?_eq_some_iff.1 hj).1; rw [HQL.out] at this; omega)⟩)
      clear hlt hk
      go_wp2
      go_ret
      exact ⟨_, rfl, by rw [← HU.out]; exact HRD.out, HBW.out⟩
end Go.Proofs.Ytjkmmmmbdfcnbaa
