/-
  Layer 8: the answer's All. Own work.
-/
import Derived.Test.YthfholnnkdoagaaAll8
namespace Go.Proofs.Ythfholnnkdoagaa
set_option linter.unusedVariables false
set_option linter.unusedSimpArgs false
open Go.RowKit

theorem firsts_pre : ∀ (L V : List Pp), ∃ Z, firsts V L = V ++ Z
  | [], V => ⟨[], by rw [firsts, List.append_nil]⟩
  | p :: L, V => by
    rw [firsts]
    split
    · exact firsts_pre L V
    · obtain ⟨Z, h⟩ := firsts_pre L (V ++ [p])
      exact ⟨p :: Z, by rw [h]; simp⟩
theorem firsts_app : ∀ (L M V : List Pp), firsts V (L ++ M) = firsts (firsts V L) M
  | [], M, V => rfl
  | p :: L, M, V => by
    show firsts V (p :: (L ++ M)) = firsts (firsts V (p :: L)) M
    rw [firsts, firsts, firsts_app L M]
theorem firsts_drop {L : List Pp} {k : Nat} {x : Pp} (hx : L[k]? = some x) (h : getM (firsts [] (L.take k)) x.1 = none) : (firsts [] L).drop (firsts [] (L.take k)).length = x :: (firsts [] L).drop (firsts [] (L.take (k + 1))).length := by
  have h1 := firsts_take_new hx h
  have h2 : firsts [] L = firsts (firsts [] (L.take (k + 1))) (L.drop (k + 1)) := by rw [← firsts_app, List.take_append_drop]
  obtain ⟨Z, h3⟩ := firsts_pre (L.drop (k + 1)) (firsts [] (L.take (k + 1)))
  rw [h2, h3, h1, List.append_assoc, List.drop_left' rfl]
  show [x] ++ Z = x :: _
  rw [show firsts [] (L.take k) ++ ([x] ++ Z) = (firsts [] (L.take k) ++ [x]) ++ Z by rw [List.append_assoc], List.drop_left' rfl]
  rfl
theorem firsts_end {L : List Pp} {k : Nat} (h : L.length ≤ k) : (firsts [] L).drop (firsts [] (L.take k)).length = [] := by
  rw [List.take_of_length_le h]
  exact List.drop_eq_nil_of_le (Nat.le_refl _)
theorem at_first {L : List Pp} {k : Nat} {x : Pp} (hx : L[k]? = some x) (h : getM (L.take k) x.1 = none) : atI (prs L) (str x.1) = (k : Int) := by
  rw [at_num]
  have hk := (List.getElem?_eq_some_iff.1 hx).1
  have : numF L (str x.1) = some k := by
    unfold numF
    rw [List.findIdx?_eq_some_iff_getElem]
    refine ⟨hk, by rw [(List.getElem?_eq_some_iff.1 hx).2, eqS_str]; simp, fun j hj => ?_⟩
    rw [eqS_str]
    simp only [beq_iff_eq, Bool.not_eq_true', Bool.not_eq_true, beq_eq_false_iff_ne]
    intro e
    exact get_none.1 h (List.mem_map.2 ⟨L[j], List.mem_take_iff_getElem.2 ⟨j, by omega, rfl⟩, e⟩)
  rw [this]
theorem at_later {L : List Pp} {k : Nat} {x : Pp} (hx : L[k]? = some x) (h : (getM (L.take k) x.1).isSome = true) : atI (prs L) (str x.1) ≠ (k : Int) := by
  rw [at_num]
  obtain ⟨p, hp, he⟩ := List.mem_map.1 (get_some h)
  obtain ⟨j, hj, hje⟩ := List.mem_take_iff_getElem.1 hp
  cases hn : numF L (str x.1) with
  | none => simp
  | some i =>
    intro e
    have e2 : (i : Int) = (k : Int) := e
    have e3 : i = k := by omega
    subst e3
    unfold numF at hn
    rw [List.findIdx?_eq_some_iff_getElem] at hn
    obtain ⟨_, _, h3⟩ := hn
    have := h3 j (by omega)
    rw [eqS_str, hje, he] at this
    simp at this
def RAllP (B : Nat) (x : Xa) (w : World) (e : Ending) (w' : World) : Prop :=
  Below B w w' ∧ match x with
  | .ok l _ => ∃ v, e = .returned (.tuple #[v, .int .i64 0, .string ⟨#[]⟩]) ∧ w'.ownsRow w.heap.size 33 2 v (prs l).length (rowPr (prs l))
  | .bad er n _ => e = .returned (.tuple #[.slice none 0 0, .int .i64 er, .string (str n)])
theorem RT8.grown {B R : Nat} {L D acc : List Pp} {vL vd vo v : Value} {bad : Int} {nm : List UInt8} {ways : List (List UInt8)} {w0 w w' : World} (h : RT8 B R L vL bad nm ways D vd vo w) (ho : w.ownsRow w0.heap.size 33 2 v acc.length (rowPr (prs acc))) (hB : B ≤ w0.heap.size) (hd : ∀ k, v.ownBlock = some k → vd.ownBlock ≠ some k) (hg : w.grownBy w' v.ownBlock) : RT8 B R L vL bad nm ways D vd vo w' := by
  have hh : ∀ {k : Nat} {o : Obj}, w.heap[k]? = some o → v.ownBlock ≠ some k → w'.heap[k]? = some o := fun {k o} hk hn => (hg.block k (Array.getElem?_eq_some_iff.1 hk).1 (fun e => hn e.symm)).trans hk
  have hty : ∀ {k : Nat}, v.ownBlock = some k → ∃ cs, w.heap[k]? = some (Obj.cells cs 33 (0, 0)) ∧ w0.heap.size ≤ k := fun {k} hk => own_ty ho hk
  refine ⟨hh h.tab fun e => ?_, own_frame h.l fun k cs hk hc => hh hc fun e => ?_, h.lt, own_frame h.done fun k cs hk hc => hh hc fun e => hd k e hk, own_frame h.opn fun k cs hk hc => hh hc fun e => ?_, h.low⟩
  · obtain ⟨cs, q, _⟩ := hty e
    rw [h.tab] at q; cases q
  · obtain ⟨_, _, q⟩ := hty e
    have := h.lt k hk
    omega
  · obtain ⟨cs2, q, _⟩ := hty e
    rw [hc] at q; cases q
/-- on the way through the answer's properties -/
structure RA8 (B R : Nat) (L : List Pp) (vL : Value) (w : World) (acc D : List Pp) (v : Value) (w' : World) : Prop where
  m : ∃ (nm : List UInt8) (ways : List (List UInt8)) (vd vo : Value), RT8 B R L vL 0 nm ways D vd vo w' ∧ ∀ k, v.ownBlock = some k → vd.ownBlock ≠ some k
  row : w'.ownsRow w.heap.size 33 2 v acc.length (rowPr (prs acc))
  q : Q8 L [] D
  b : Below B w w'
  lt : R < w.heap.size ∧ B ≤ w.heap.size
theorem RA8.far {B R : Nat} {L : List Pp} {vL : Value} {w : World} {acc D : List Pp} {v : Value} {w' w'' : World} (h : RA8 B R L vL w acc D v w') (hb : Below w'.heap.size w' w'') : RA8 B R L vL w acc D v w'' := by
  obtain ⟨⟨nm, ways, vd, vo, h1, h2⟩, h3, h4, h5, h6⟩ := h
  exact ⟨⟨nm, ways, vd, vo, h1.far hb, h2⟩, own_mvd8 h3 hb, h4, h5.trans (hb.mono (Nat.le_trans h6.2 h5.size)), h6⟩
/-- the row of what is answered stays where the table turns -/
theorem row_mw {B R : Nat} {vd vo vd' vo' v : Value} {w0 w w' : World} {acc : List Pp} {L D : List Pp} {vL : Value} {bad : Int} {nm : List UInt8} {ways : List (List UInt8)} (h : w.ownsRow w0.heap.size 33 2 v acc.length (rowPr (prs acc))) (ht : RT8 B R L vL bad nm ways D vd vo w) (hd : ∀ k, v.ownBlock = some k → vd.ownBlock ≠ some k) (hm : Mw R vd vo w w' vd' vo') :
    w'.ownsRow w0.heap.size 33 2 v acc.length (rowPr (prs acc)) ∧ ∀ k, v.ownBlock = some k → vd'.ownBlock ≠ some k := by
  refine ⟨own_frame h fun k cs hk hc => (hm.block k (Array.getElem?_eq_some_iff.1 hc).1 (ht.ne h (by decide) hk) (hd k hk) (fun e => ?_)).trans hc, fun k hk e => ?_⟩
  · obtain ⟨cs2, q, _⟩ := own_ty ht.opn e
    rw [hc] at q; cases q
  · rcases hm.nd with e2 | e2
    · rw [e2] at e; exact hd k hk e
    · obtain ⟨cs2, q, _⟩ := own_ty h hk
      have := (Array.getElem?_eq_some_iff.1 q).1
      have := e2 k e
      omega
set_option maxHeartbeats 8000000 in
set_option maxRecDepth 100000 in
theorem rall8_any (B R : Nat) (L : List Pp) (vL : Value) (hLl : L.length ≤ 1000) (hL : ∀ p ∈ L, p.2.length ≤ 1000) (nm : List UInt8) (ways : List (List UInt8)) (D : List Pp) (vd vo : Value) (w : World) (hq : Q8 L [] D) (ht : RT8 B R L vL 0 nm ways D vd vo w) :
    Calls Try.prog 27 #[.pointer (some ⟨R, 0, none⟩)] w (RAllP B (allGo (firsts [] L) (firsts [] L) [] D) w) := by
  obtain ⟨p1, p2⟩ := ht.fails 0 []
  have c2 : w.cell? ⟨R, 2, none⟩ = some (.int .i64 0) := by rw [cell_of_row _ _ 2 _ _ (0, 0) ht.tab]; rfl
  have c3 : w.cell? ⟨R, 3, none⟩ = some (.string (str nm)) := by rw [cell_of_row _ _ 3 _ _ (0, 0) ht.tab]; rfl
  have f2 := frozen_of_row w R 2 _ _ ht.tab
  have f3 := frozen_of_row w R 3 _ _ ht.tab
  obtain ⟨w1, hw1⟩ : ∃ w1, w1 = (w.setCell ⟨R, 2, none⟩ (.int .i64 0)).setCell ⟨R, 3, none⟩ (.string (str [])) := ⟨_, rfl⟩
  rw [← hw1] at p1 p2
  have hstr : str [] = ⟨#[]⟩ := rfl
  rw [hstr] at hw1
  have HW1 := Lib.hid hw1
  generalize hX : allGo (firsts [] L) (firsts [] L) [] D = RES
  have hlt := ht.lts.1
  have HA1 := Lib.hid (show RA8 B R L vL w [] D (.slice none 0 0) w1 from ⟨⟨_, _, _, _, p1, fun k hk => by simp [Value.ownBlock] at hk⟩, World.ownsRow_nil _ _ _ _, hq, p2.below ht, hlt, by have := ht.low; omega⟩)
  have HX := Lib.hid hX
  obtain ⟨aL, cL, hvL⟩ := own_shape8 ht.l
  rw [prs_len] at hvL
  subst hvL
  have HGE := Lib.hid (fun n => firsts_get L n)
  have c0 : w1.cell? ⟨R, 0, none⟩ = some (.slice aL L.length cL) := by rw [cell_of_row _ _ 0 _ _ (0, 0) p1.tab]; rfl
  have hlI : (L.length : Int) ≤ 1000 := by omega
  clear hX p1 p2 ht hw1 hq
  go_enter Try.func27, Try.ntmps27
  go_upto_region 3 with fail
  rw [← HW1.out]
  clear c2 c3 f2 f3 hstr
  go_upto_region 5 with fail
  go_loopw [5, 20] (fun t5 i wr => ∃ (k : Nat) (acc D2 : List Pp), k ≤ L.length ∧ i = .int .i64 k ∧ RES = allGo (firsts [] L) ((firsts [] L).drop (firsts [] (L.take k)).length) acc D2 ∧ acc.length ≤ k ∧ RA8 B R L (.slice aL L.length cL) w acc D2 t5 wr) (fun _ i _ => L.length - (intOf i).toNat)
  case atStart => exact ⟨0, [], D, by omega, rfl, HX.out.symm, by simp, HA1.out⟩
  case round =>
    obtain ⟨k, acc, D2, hk, rfl, hres, hac, ha⟩ := hrel
    have HR := Lib.hid hres
    have HA := Lib.hid ha
    clear hres ha HA1 c0
    obtain ⟨av, cv, hv⟩ := own_shape8 HA.out.row
    subst hv
    by_cases hlt2 : k < L.length
    · obtain ⟨x, hx⟩ : ∃ x, L[k]? = some x := ⟨_, List.getElem?_eq_getElem hlt2⟩
      obtain ⟨nm1, ways1, vd1, vo1, hrt, hdj⟩ := HA.out.m
      obtain ⟨a1, e1, p0, p1⟩ := RdSl.elem (RdPs.of_own hrt.l) (prs_at hx)
      subst e1
      dsimp only at p0 p1
      have HXX := Lib.hid hx
      have hkI : (k : Int) < (L.length : Int) := by omega
      have hbb : Below wr.heap.size wr (wr.alloc (.cells #[.string (str x.1), .string (str x.2)] 33)) := (Below.refl _ _).alloc (Nat.le_refl _) _
      have hnew := heap_alloc_new wr (.cells #[.string (str x.1), .string (str x.2)] 33)
      have HRT := Lib.hid (hrt.far hbb)
      have HDJ := Lib.hid hdj
      have HA2 := Lib.hid (HA.out.far hbb)
      have HROW := Lib.hid (own_mvd8 HA.out.row hbb)
      have hP0 : R ≠ wr.heap.size := by have := hrt.lts.1; omega
      have hvdP : ∀ q, vd1.ownBlock = some q → q < wr.heap.size := fun q hq => (hrt.lts.2.1 q hq).2
      clear hx hrt hdj hbb HA
      go_upto_region 7 with fail
      generalize wr.alloc (.cells #[.string (str x.1), .string (str x.2)] 33) = w2 at hnew HRT HA2 HROW ⊢
      generalize wr.heap.size = P0 at hnew hP0 hvdP ⊢
      have r0 : w2.cell? ⟨P0, 0, none⟩ = some (.string (str x.1)) := by rw [cell_of_row w2 P0 0 _ _ (0, 0) hnew]; rfl
      have c0 : w2.cell? ⟨R, 0, none⟩ = some (.slice (some a1) L.length cL) := by rw [cell_of_row _ _ 0 _ _ (0, 0) HRT.out.tab]; rfl
      have HNW := Lib.hid hnew
      have HAT := Lib.hid (fun w' (hb : Below w2.heap.size w2 w') => At_any (prs L) (str x.1) (.slice (some a1) L.length cL) w' (RdPs.of_own (HRT.out.far hb).l))
      have hcl : acc.length ≤ 1000 := by omega
      clear p0 p1 hnew
      cases hg : getM (L.take k) x.1 with
      | some v9 =>
        have hne := at_later HXX.out (by rw [hg]; rfl)
        have HF := Lib.hid (firsts_take HXX.out (by rw [firsts_get, hg]; rfl))
        clear hg
        have HNE := Lib.hid hne
        clear hne
        go_region_law (go_simp; go_at_call 17; refine (HAT.out _ (by repeat (first | exact Below.refl _ _ | refine Below.drew ?_))).mono ?_; rintro e w3 ⟨rfl, hb3⟩; have HB3 := Lib.hid hb3; clear hb3)
        all_goals
          have HA3 := Lib.hid (HA2.out.far ((Below.refl w2.heap.size w2).drew.trans HB3.out))
          have hne := HNE.out
          generalize atI (prs L) (str x.1) = ai at hne ⊢
          have hneI : (ai == (k : Int)) = false := by rw [beq_eq_false_iff_ne]; exact hne
          clear hne
          go_wp2
          go_roundw
          case rel => exact ⟨k + 1, acc, D2, by omega, by go_num, by rw [HF.out]; exact HR.out, by omega, HA3.out⟩
          case measure => simp [intOf]; omega
      | none =>
        have hat := at_first HXX.out hg
        have hgf : getM (firsts [] (L.take k)) x.1 = none := by rw [firsts_get]; exact hg
        have hdr := firsts_drop HXX.out hgf
        obtain ⟨v0, hv0⟩ : ∃ v0, getM L x.1 = some v0 := by
          cases hgl : getM L x.1 with
          | some v0 => exact ⟨v0, rfl⟩
          | none => exact absurd (List.mem_map.2 ⟨x, List.mem_of_getElem? HXX.out, rfl⟩) (get_none.1 hgl)
        have HRO := Lib.hid (fun (v : List UInt8) (D3 : List Pp) (h : valueM8 L 33 [] x.1 D2 = .ok v D3) => show RES = allGo (firsts [] L) ((firsts [] L).drop (firsts [] (L.take (k + 1))).length) (acc ++ [(x.1, v)]) D3 from by
          rw [HR.out, hdr]; exact allGo_ok (by rw [value_congr HGE.out]; exact h))
        have HRB := Lib.hid (fun (e : Int) (n : List UInt8) (D3 : List Pp) (h : valueM8 L 33 [] x.1 D2 = .bad e n D3) => show RES = .bad e n D3 from by
          rw [HR.out, hdr]; exact allGo_bad (by rw [value_congr HGE.out]; exact h))
        have HQV := Lib.hid (value_q L 33 [] x.1 D2 (by rw [hv0]; rfl) HA2.out.q)
        clear hdr hgf hg
        go_region_law (go_simp; go_at_call 17; refine (HAT.out _ (by repeat (first | exact Below.refl _ _ | refine Below.drew ?_))).mono ?_; rintro e w3 ⟨rfl, hb3⟩; have HB3r := Lib.hid hb3; clear hb3)
        all_goals
          (try rw [hat])
          have hb3 := (Below.refl w2.heap.size w2).drew.trans HB3r.out
          have HRT3 := Lib.hid (HRT.out.far hb3)
          have HROW3 := Lib.hid (own_mvd8 HROW.out hb3)
          have HB3 := Lib.hid (HA2.out.far hb3).b
          have hn3 := (hb3.block P0 (Array.getElem?_eq_some_iff.1 HNW.out).1).trans HNW.out
          obtain ⟨q1, q2⟩ := HRT3.out.opens (w5 := w3) (vo5 := .slice none 0 0) (ways5 := []) (World.ownsRow_nil _ _ _ _) (World.grownBy.refl _ _) (.inr fun k hk => by simp [Value.ownBlock] at hk)
          have hn4 : (w3.setCell ⟨R, 5, none⟩ (.slice none 0 0)).heap[P0]? = _ := (heap_setCell_other w3 ⟨R, 5, none⟩ P0 _ (fun e => hP0 e.symm)).trans hn3
          have c5 : w3.cell? ⟨R, 5, none⟩ = some vo1 := by rw [cell_of_row _ _ 5 _ _ (0, 0) HRT3.out.tab]; rfl
          have f5 := frozen_of_row w3 R 5 _ _ HRT3.out.tab
          have HM4 := Lib.hid q2
          have HRT4 := Lib.hid q1
          have HR4 := Lib.hid (row_mw HROW3.out HRT3.out HDJ.out q2)
          have HB4 := Lib.hid (HB3.out.trans (q2.below HRT3.out))
          have HN4 := Lib.hid hn4
          clear hb3 hn3 hn4 q1 q2 r0 c0 hat
          go_upto_region 9 with fail
          generalize w3.setCell ⟨R, 5, none⟩ (.slice none 0 0) = w4 at HM4 HRT4 HR4 HB4 HN4 ⊢
          have r0 : w4.cell? ⟨P0, 0, none⟩ = some (.string (str x.1)) := by rw [cell_of_row w4 P0 0 _ _ (0, 0) HN4.out]; rfl
          have HV := Lib.hid (rvalue8_any B R L _ hLl hL 33 [] rfl (by omega) D2 nm1 vd1 (.slice none 0 0) w4 x.1 v0 hv0 HA2.out.q HRT4.out)
          clear c5 f5 HRT3 HROW3 HB3 HRT HROW
          go_wp2_with fail
          refine HV.out.mono ?_
          rintro e w5 hval
          generalize valueM8 L 33 [] x.1 D2 = xv at hval HRO HRB HQV
          clear HV
          cases xv with
          | bad er n D3 =>
            obtain ⟨hz, sv, ways5, vd5, vo5, rfl, hsv, h5, m5⟩ := hval
            have HRES := Lib.hid (HRB.out er n D3 rfl)
            have c2 : w5.cell? ⟨R, 2, none⟩ = some (.int .i64 er) := by rw [cell_of_row _ _ 2 _ _ (0, 0) h5.tab]; rfl
            have c3 : w5.cell? ⟨R, 3, none⟩ = some (.string (str n)) := by rw [cell_of_row _ _ 3 _ _ (0, 0) h5.tab]; rfl
            have hz2 : (er == 0) = false := by rw [beq_eq_false_iff_ne]; exact hz
            have hz3 : (er != 0) = true := by rw [bne_iff_ne]; exact hz
            have HBF := Lib.hid (HB4.out.trans (m5.below HRT4.out))
            have HF := Lib.hid (show ∀ w', Below w5.heap.size w5 w' → RAllP B RES w (.returned (.tuple #[.slice none 0 0, .int .i64 er, .string (str n)])) w' from fun w' hb => by
              rw [HRES.out]
              exact ⟨HBF.out.trans (hb.mono (Nat.le_trans HA2.out.lt.2 HBF.out.size)), rfl⟩)
            clear h5 m5 HRO HRB HQV HBF
            go_upto_region 11 with fail
            first
            | (go_region; all_goals (go_wp2; go_ret3; exact HF.out _ (Below.refl _ _).drew))
            | (go_wp2; go_ret3; exact HF.out _ (Below.refl _ _))
          | ok v D3 =>
            obtain ⟨rfl, vd5, vo5, h5, m5⟩ := hval
            have HRES := Lib.hid (HRO.out v D3 rfl)
            have HQ5 := Lib.hid (show Q8 L [] D3 from HQV.out)
            have c2 : w5.cell? ⟨R, 2, none⟩ = some (.int .i64 0) := by rw [cell_of_row _ _ 2 _ _ (0, 0) h5.tab]; rfl
            have HR5 := Lib.hid (row_mw HR4.out.1 HRT4.out HR4.out.2 m5)
            have HB5 := Lib.hid (HB4.out.trans (m5.below HRT4.out))
            have hn5 : w5.heap[P0]? = _ := (m5.block P0 (Array.getElem?_eq_some_iff.1 HN4.out).1 (fun e => hP0 e.symm) (fun e => by have := hvdP P0 e; omega) (by simp [Value.ownBlock])).trans HN4.out
            have y0 : w5.cell? ⟨P0, 0, none⟩ = some (.string (str x.1)) := by rw [cell_of_row w5 P0 0 _ _ (0, 0) hn5]; rfl
            have HRT5 := Lib.hid h5
            have hbase : w.heap.size ≤ w5.heap.size := HB5.out.size
            clear h5 m5 HRB HRO HQV r0 hn5
            go_wp2_with (at_builtin
                         refine app_propL rfl (.tmp 54) (.tmp 59) rfl w5 ⟨str x.1, str v⟩ rfl rfl HR5.out.1 (by omega) hbase ?_)
            intro g6 q6 w6 ho6 hg6 hl6
            have HFIN := Lib.hid (show RA8 B R L (.slice (some a1) L.length cL) w (acc ++ [(x.1, v)]) D3 (.slice (some ⟨g6, 0, none⟩) (acc.length + 1) q6) w6 from by
              have hpx : rowPr (prs [(x.1, v)]) = prL ⟨str x.1, str v⟩ := by simp [rowPr, prs]
              refine ⟨⟨nm1, [], vd5, vo5, HRT5.out.grown HR5.out.1 HA2.out.lt.2 HR5.out.2 hg6, fun k hk e => ?_⟩, ?_, HQ5.out, HB5.out.grown hg6 (Nat.le_trans HA2.out.lt.2 hbase) (fun k hk => ?_), HA2.out.lt⟩
              · have hk2 : g6 = k := by simpa [Value.ownBlock] using hk
                rcases hl6 with h | h
                · exact HR5.out.2 k (by rw [h, hk2]) e
                · have := (HRT5.out.lts.2.1 k e).2
                  omega
              · rw [List.length_append, List.length_singleton, prs_app, rowPr_app, hpx]; exact ho6
              · obtain ⟨cs, _, h2⟩ := own_ty HR5.out.1 hk
                exact Nat.le_trans HA2.out.lt.2 h2)
            clear ho6 hg6 hl6 y0 HR5 HB5 HRT5
            go_wp2
            go_roundw
            case rel => exact ⟨k + 1, _, D3, by omega, by go_num, HRES.out, by rw [List.length_append, List.length_singleton]; omega, HFIN.out⟩
            case measure => simp [intOf]; omega
    · have hle : (L.length : Int) ≤ k := by omega
      have HRES := Lib.hid (show RES = .ok acc D2 from by rw [HR.out, firsts_end (by omega)]; rfl)
      have HF := Lib.hid (show RAllP B RES w (.returned (.tuple #[.slice av acc.length cv, .int .i64 0, .string ⟨#[]⟩])) wr from by
        rw [HRES.out]
        exact ⟨HA.out.b, _, rfl, by rw [prs_len]; exact HA.out.row⟩)
      clear HA HR
      go_wp2
      go_ret3
      exact HF.out
end Go.Proofs.Ythfholnnkdoagaa
