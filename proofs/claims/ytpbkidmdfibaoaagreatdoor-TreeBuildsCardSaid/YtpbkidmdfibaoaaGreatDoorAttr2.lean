/-
  Layer 2: contract of the reader's method attr. Own work.
-/
import Derived.Test.YtpbkidmdfibaoaaGreatDoorMem2
import Derived.Laws.StructEq
namespace Go.Proofs.YtpbkidmdfibaoaaGreatDoor
set_option linter.unusedVariables false
set_option linter.unusedSimpArgs false
open Go.RowKit

/-- what a method ends with; behind a panic nothing is said of the reader -/
def RsQ {α : Type} (X : Nat) (l : List UInt8) (M : Rs α) (val : α → Value) (w : World) (e : Ending) (w' : World) : Prop :=
  match M with
  | .ok a r => e = .returned (val a) ∧ Mv X l r w w'
  | .bad c r => e = bad2 c l r ∧ w.grownBy w' (some X)
theorem FrX.mono {B B' X : Nat} {w w' : World} (h : FrX B X w w') (hB : B' ≤ B) : FrX B' X w w' := ⟨h.os, h.tape, h.output, h.size, fun k hk hx => h.block k (by omega) hx⟩
theorem FrX.row {B X R : Nat} {w w' : World} {b : _} (h : FrX B X w w') (hR : R < B) (hx : R ≠ X) (hb : w.heap[R]? = some b) : w'.heap[R]? = some b := (h.block R hR hx).trans hb
theorem FrX.set {B X R o : Nat} {v : Value} {w w' : World} (h : FrX B X w w') (hR : B ≤ R) : FrX B X w (w'.setCell ⟨R, o, none⟩ v) :=
  ⟨h.os, h.tape, h.output, by simpa using h.size, fun k hk hx => (heap_setCell_other w' ⟨R, o, none⟩ k v (fun e => by simp only at e; omega)).trans (h.block k hk hx)⟩
theorem FrX.setRow {B X R : Nat} {cs : Array Value} {w w' : World} (h : FrX B X w w') (hR : B ≤ R) : FrX B X w (w'.setRow R cs) :=
  ⟨h.os, h.tape, h.output, by simpa using h.size, fun k hk hx => (setRow_other w' R k cs (by omega)).trans (h.block k hk hx)⟩
theorem FrX.ofGrown {B X : Nat} {w w' : World} (h : w.grownBy w' (some X)) (hB : B ≤ w.heap.size) : FrX B X w w' := ⟨h.os, h.tape, h.output, h.size, fun k hk hx => h.block k (by omega) (by simp; exact hx)⟩
theorem RT.frx {w w' : World} {X : Nat} {l r : List UInt8} (h : RT w' X l r) (hg : FrX w.heap.size X w w') : Mv X l r w w' := ⟨h, hg.grown⟩
theorem below_grown {w w' : World} (h : Below w.heap.size w w') (row : Option Nat) : w.grownBy w' row := ⟨h.os, h.tape, h.output, h.size, fun k hk _ => h.block k hk⟩
theorem own_belowG {w w' : World} {B e size n : Nat} {v : Value} {xs : List Value} (h : w.ownsRow B e size v n xs) (hb : Below w.heap.size w w') : w'.ownsRow B e size v n xs :=
  h.kept (below_grown hb none) (by cases hv : v.ownBlock <;> simp)
theorem own_x {w w' : World} {B e size n X : Nat} {v : Value} {xs : List Value} (h : w.ownsRow B e size v n xs) (hg : w.grownBy w' (some X)) (hX : X < B) : w'.ownsRow B e size v n xs := by
  refine h.kept hg ?_
  cases hv : v.ownBlock with
  | none => exact .inl rfl
  | some q => have := (h.lt q hv).1; exact .inr (by simp; omega)
theorem any_step2 {ahead : List At2} {q : Nat} {x : At2} {n : List UInt8} (hx : ahead[q]? = some x) (h0 : (ahead.take q).any (fun a => a.1 == n) = false) (h : (x.1 == n) = false) : (ahead.take (q + 1)).any (fun a => a.1 == n) = false := by
  rw [List.take_add_one, hx, List.any_append, h0]
  simp only [Option.toList_some, List.any_cons, h, List.any_nil]
  rfl
/-- on the way: the reader in X, a variable in R that is made behind w -/
structure S2 (w : World) (X R : Nat) (row : Array Value × TypeId) (l r : List UInt8) (wk : World) : Prop where
  rt : RT wk X l r
  fr : FrX w.heap.size X w wk
  row : wk.heap[R]? = some (.cells row.1 row.2 (0, 0))
  ne : R ≠ X
theorem S2.mv {w wk wk' : World} {X R : Nat} {row : _} {l r r' : List UInt8} (h : S2 w X R row l r wk) (hm : Mv X l r' wk wk') : S2 w X R row l r' wk' :=
  ⟨hm.1, h.fr.trans (FrX.ofMv hm h.fr.size), (hm.2.block R (Array.getElem?_eq_some_iff.1 h.row).1 (by simp; exact h.ne)).trans h.row, h.ne⟩
theorem S2.below {w wk wk' : World} {X R : Nat} {row : _} {l r : List UInt8} (h : S2 w X R row l r wk) (hb : Below wk.heap.size wk wk') : S2 w X R row l r wk' :=
  ⟨h.rt.below hb, h.fr.trans (FrX.ofBelow (hb.mono h.fr.size)), (hb.block R (Array.getElem?_eq_some_iff.1 h.row).1).trans h.row, h.ne⟩
theorem S2.grown {w wk wk' : World} {X R : Nat} {row : _} {l r : List UInt8} (h : S2 w X R row l r wk) (hg : wk.grownBy wk' (some X)) : w.grownBy wk' (some X) := (h.fr.trans (FrX.ofGrown hg h.fr.size)).grown
theorem let_ok {stop : UInt8} : ∀ (f : Nat) {acc r v r4 : List UInt8}, letM stop false f acc r = .ok v r4 → r.length < f → ∃ r5, r4 = stop :: r5
  | 0, acc, r, v, r4, _, h => by omega
  | f + 1, acc, [], v, r4, h, _ => by rw [letM] at h; simp at h
  | f + 1, acc, c :: r, v, r4, h, hl => by
    by_cases hc : c = stop
    · rw [letM, if_pos hc] at h
      cases h
      exact ⟨r, by rw [hc]⟩
    · by_cases h38 : c = 38
      · obtain ⟨⟨x, n, y⟩, hxy⟩ : ∃ z, refS (c :: r) = z := ⟨_, rfl⟩
        rw [let_ref hc h38 hxy] at h
        split at h
        · next hy =>
          subst hy
          have := refS_small hxy
          refine let_ok f h ?_
          rw [List.length_drop]
          simp only [List.length_cons] at this hl ⊢
          omega
        · simp at h
      · rw [letM, if_neg hc, if_neg h38] at h
        split at h
        · simp at h
        · exact let_ok f h (by simp only [List.length_cons] at hl; omega)
theorem attr_results (tmps : Array Value) (w : World) (R : Nat) (cs : Array Value) (hs : cs.size = 2) (h2 : tmps.getD 4 undef = .pointer (some ⟨R, 0, none⟩))
    (hR : w.heap[R]? = some (.cells cs 68 (0, 0))) :
    (results Tryz.f104 tmps).run Tryz.prog w = .ok (.agg cs) w := by
  have h2' : tmps[4]?.getD undef = .pointer (some ⟨R, 0, none⟩) := by simpa using h2
  have l1 := run_loadVar_row w R 68 68 cs (0, 0) _ hR Tryz.underlying68 rfl (by rw [hs]; kernel_rfl)
  simp [results, Tryz.results104, h2', asAddr, l1]
set_option maxRecDepth 100000 in
set_option maxHeartbeats 8000000 in
theorem attr_at (X B : Nat) (l r : List UInt8) (ahead : List At2) (va : Value) (hl : l.length ≤ 1000000) (hX : X < B) (w : World) (hB : B ≤ w.heap.size) (h : RT w X l r) (ho : w.ownsRow B 68 2 va ahead.length (rowAs ahead)) :
    Calls Tryz.prog 104 #[.pointer (some ⟨X, 0, none⟩), va] w (RsQ X l (attrM ahead r) (fun p => .agg #[.string (str p.1), .string (str p.2)]) w) := by
  obtain ⟨aa, ac, rfl⟩ := RdSl.shape (RdAs.of_own ho)
  have hla := RdSl.len (RdAs.of_own ho)
  have hlaI : (ahead.length : Int) ≤ 9223372036854775807 := by omega
  have hXw := h.lt
  have HXW := Lib.hid hXw
  obtain ⟨c0, c1, c2, c3⟩ := h.cells
  obtain ⟨wR, hwR⟩ : ∃ wR, wR = w.alloc (.cells #[.string ⟨#[]⟩, .string ⟨#[]⟩] 68) := ⟨_, rfl⟩
  obtain ⟨wP, hwP⟩ : ∃ wP, wP = wR.alloc (.cells #[.int .i64 ((l.length - r.length : Nat) : Int), .int .i64 (lineS (preO l r)), .int .i64 (colS (preO l r))] 29) := ⟨_, rfl⟩
  have hbR : Below w.heap.size w wR := by rw [hwR]; exact (Below.refl _ _).alloc (Nat.le_refl _) _
  have hzR : wR.heap.size = w.heap.size + 1 := by rw [hwR]; simp
  have hR1 : wR.heap[w.heap.size]? = some (.cells #[.string ⟨#[]⟩, .string ⟨#[]⟩] 68 (0, 0)) := by rw [hwR]; exact heap_alloc_new w _
  have hbP : Below wR.heap.size wR wP := by rw [hwP]; exact (Below.refl _ _).alloc (Nat.le_refl _) _
  have hzP : wP.heap.size = w.heap.size + 2 := by rw [hwP]; simp [hzR]
  have hP1 : wP.heap[w.heap.size + 1]? = some (.cells #[.int .i64 ((l.length - r.length : Nat) : Int), .int .i64 (lineS (preO l r)), .int .i64 (colS (preO l r))] 29 (0, 0)) := by
    have := heap_alloc_new wR (.cells #[.int .i64 ((l.length - r.length : Nat) : Int), .int .i64 (lineS (preO l r)), .int .i64 (colS (preO l r))] 29)
    rw [← hwP, hzR] at this; exact this
  have hR2 := (hbP.block _ (by omega)).trans hR1
  have hrR := h.below hbR
  have hrP := hrR.below hbP
  have hoP := own_belowG (own_belowG ho hbR) hbP
  have hfr : FrX w.heap.size X w wP := FrX.ofBelow (hbR.trans (hbP.mono (by omega)))
  obtain ⟨d0, d1, d2, d3⟩ := hrR.cells
  have HRP := Lib.hid hrP
  have HOP := Lib.hid hoP
  have HFR := Lib.hid hfr
  have HP1 := Lib.hid hP1
  have HR2 := Lib.hid hR2
  have HN := Lib.hid (name_at X l r 10 hl wP hrP)
  have HBB := Lib.hid hB
  clear h ho hbP hP1 hR1 hR2 hrP hrR hoP hfr hbR c0 c1 c2 c3 hB
  have HZP := Lib.hid hzP
  have HWR := Lib.hid hwR
  have HWP := Lib.hid hwP
  have HZR := Lib.hid hzR
  clear hwR hwP hzR hzP
  go_enter Tryz.func104, Tryz.ntmps104
  go_upto_region 1 with fail
  rw [← HWR.out]
  go_upto_region 2 with fail
  rw [← HWP.out]
  simp only [HZR.out]
  clear d0 d1 d2 d3
  obtain ⟨R, hRe⟩ : ∃ R, R = w.heap.size := ⟨_, rfl⟩
  obtain ⟨Pb, hPe⟩ : ∃ P, P = w.heap.size + 1 := ⟨_, rfl⟩
  rw [← hRe] at HR2
  rw [← hPe] at HP1
  simp only [← hPe]
  have HRE := Lib.hid (show w.heap.size ≤ R ∧ R ≠ X ∧ R < wP.heap.size by have := HZP.out; omega)
  have HPE := Lib.hid (show w.heap.size ≤ Pb ∧ Pb ≠ X ∧ Pb < wP.heap.size by have := HZP.out; omega)
  have HRESULT := Lib.hid hRe
  clear hPe
  go_wp2_with fail
  simp only [← HRESULT.out]
  cases hM : nameM 10 r with
  | bad c r1 =>
    have HMM := Lib.hid (show attrM ahead r = .bad c r1 by unfold attrM; rw [hM]; rfl)
    rw [hM] at HN
    clear hM
    refine HN.out.mono ?_
    rintro e w3 ⟨rfl, hm⟩
    have HF := Lib.hid (HFR.out.trans (FrX.ofMv hm (by have := HZP.out; omega)))
    clear hm
    go_wp2
    refine ⟨rfl, ?_⟩
    rw [HMM.out]
    exact ⟨rfl, HF.out.grown⟩
  | ok n r1 =>
    have HMM := Lib.hid (show attrM ahead r = if ahead.any (fun a => a.1 == n) then .bad 15 r
      else (mustM 61 (blanksM r1)).bind fun _ r2 => match blanksM r2 with
        | [] => .bad 13 []
        | q :: r3 => if q = 34 || q = 39 then (letM q false (r3.length + 1) [] r3).bind fun v r4 => .ok (n, v) (r4.drop 1) else .bad 10 (q :: r3) by unfold attrM; rw [hM]; rfl)
    rw [hM] at HN
    clear hM
    refine HN.out.mono ?_
    rintro e w3 ⟨rfl, hm⟩
    have HF3 := Lib.hid (HFR.out.trans (FrX.ofMv hm (by have := HZP.out; omega)))
    have HO3 := Lib.hid (own_x HOP.out hm.2 hX)
    have HR3 := Lib.hid ((hm.2.block R HRE.out.2.2 (by simp; exact HRE.out.2.1)).trans HR2.out)
    have HP3 := Lib.hid ((hm.2.block Pb HPE.out.2.2 (by simp; exact HPE.out.2.1)).trans HP1.out)
    have HM3 := Lib.hid hm.1
    have HS3 := Lib.hid (show wP.heap.size ≤ w3.heap.size from hm.2.size)
    clear hm HN
    go_wp2_with fail
    go_loopw [19] (fun i wr => ∃ q : Nat, q ≤ ahead.length ∧ i = .int .i64 q ∧ (ahead.take q).any (fun a => a.1 == n) = false ∧ Below w3.heap.size w3 wr) (fun i _ => ahead.length - (intOf i).toNat)
    case atStart => exact ⟨0, by omega, rfl, rfl, Below.refl _ _⟩
    case round =>
      obtain ⟨q, hq, rfl, hno, hbw⟩ := hrel
      have HNO := Lib.hid hno
      have HB := Lib.hid hbw
      clear hno
      by_cases hlt : q < ahead.length
      · obtain ⟨x, hx⟩ : ∃ x, ahead[q]? = some x := ⟨_, List.getElem?_eq_getElem hlt⟩
        obtain ⟨a1, e1, d0, d1⟩ := RdSl.elem ((RdAs.of_own HO3.out).below hbw (Nat.le_refl _)) hx
        subst e1
        have HX := Lib.hid hx
        have hbb : Below wr.heap.size wr (wr.alloc (.cells #[.string (str x.1), .string (str x.2)] 68)) := (Below.refl _ _).alloc (Nat.le_refl _) _
        have HBB2 := Lib.hid (HB.out.trans (hbb.mono HB.out.size))
        have hpb := ((HBB2.out.block Pb (by have := HS3.out; have := HPE.out.2.2; omega)).trans HP3.out)
        clear hbw hbb hx
        by_cases he : x.1 = n
        · have HBAD := Lib.hid (show attrM ahead r = .bad 15 r by
            rw [HMM.out, if_pos]
            exact List.any_eq_true.2 ⟨x, List.mem_of_getElem? HX.out, by simp [he]⟩)
          rw [he] at d0 HBB2 hpb
          have p0 := cell_of_row _ Pb 0 _ _ (0, 0) hpb
          have p1 := cell_of_row _ Pb 1 _ _ (0, 0) hpb
          have p2 := cell_of_row _ Pb 2 _ _ (0, 0) hpb
          have HFF := Lib.hid (HF3.out.trans (FrX.ofBelow (X := X) (HBB2.out.mono (B' := w.heap.size) (by have := HS3.out; have := HZP.out; omega))))
          clear hpb he
          go_upto_region 7 with fail
          generalize wr.alloc (.cells #[.string (str n), .string (str x.2)] 68) = wb at p0 p1 p2 HBB2 HFF ⊢
          go_wp2
          refine ⟨rfl, ?_⟩
          rw [HBAD.out]
          exact ⟨rfl, HFF.out.grown⟩
        · have hne : ((str x.1).toList == (str n).toList) = false := by rw [beq_eq_false_iff_ne]; exact fun h => he (strEq.1 h)
          have HST := Lib.hid (any_step2 HX.out HNO.out (by simpa using he))
          clear he
          go_wp2
          go_roundw
          case rel => exact ⟨q + 1, by omega, by go_num, HST.out, HBB2.out⟩
          case measure => simp [intOf]; omega
      · have hle : (ahead.length : Int) ≤ q := by omega
        have HNX := Lib.hid (show attrM ahead r = (mustM 61 (blanksM r1)).bind fun _ r2 => match blanksM r2 with
        | [] => .bad 13 []
        | q :: r3 => if q = 34 || q = 39 then (letM q false (r3.length + 1) [] r3).bind fun v r4 => .ok (n, v) (r4.drop 1) else .bad 10 (q :: r3) by
          have := HNO.out
          rw [List.take_of_length_le (by omega)] at this
          rw [HMM.out, this]; rfl)
        have HS := Lib.hid (S2.below (⟨HM3.out, HF3.out, HR3.out, HRE.out.2.1⟩ : S2 w X R (#[.string ⟨#[]⟩, .string ⟨#[]⟩], 68) l r1 w3) hbw)
        clear hbw
        have H1 := Lib.hid (blanks_at X l r1 hl wr HS.out.rt)
        go_wp2_with fail
        refine H1.out.mono ?_
        rintro e w4 ⟨rfl, hm4⟩
        have HS4 := Lib.hid (HS.out.mv hm4)
        have H2 := Lib.hid (must_at X l (blanksM r1) 61 hl w4 hm4.1)
        clear hm4 H1
        cases hM : mustM 61 (blanksM r1) with
        | bad c r2 =>
          have HFIN := Lib.hid (show attrM ahead r = .bad c r2 by rw [HNX.out, hM]; rfl)
          rw [hM] at H2
          clear hM
          go_wp2_with fail
          refine H2.out.mono ?_
          rintro e w5 ⟨rfl, hm5⟩
          have HG := Lib.hid (HS4.out.mv hm5).fr
          clear hm5
          go_wp2
          refine ⟨rfl, ?_⟩
          rw [HFIN.out]
          exact ⟨rfl, HG.out.grown⟩
        | ok u r2 =>
          have HN2 := Lib.hid (show attrM ahead r = match blanksM r2 with
            | [] => .bad 13 []
            | q :: r3 => if q = 34 || q = 39 then (letM q false (r3.length + 1) [] r3).bind fun v r4 => .ok (n, v) (r4.drop 1) else .bad 10 (q :: r3) by rw [HNX.out, hM]; rfl)
          rw [hM] at H2
          clear hM
          go_wp2_with fail
          refine H2.out.mono ?_
          rintro e w5 ⟨rfl, hm5⟩
          have HS5 := Lib.hid (HS4.out.mv hm5)
          have H3 := Lib.hid (blanks_at X l r2 hl w5 hm5.1)
          clear hm5 H2
          go_wp2_with fail
          refine H3.out.mono ?_
          rintro e w6 ⟨rfl, hm6⟩
          generalize hr3 : blanksM r2 = rb at hm6 HN2
          have HS6 := Lib.hid (HS5.out.mv hm6)
          clear hr3 H3
          cases rb with
          | nil =>
            have H4 := Lib.hid (peek_end X l w6 hm6.1)
            have HFIN := Lib.hid (show attrM ahead r = .bad 13 [] from HN2.out)
            clear hm6
            go_wp2_with fail
            refine H4.out.mono ?_
            rintro e w7 ⟨rfl, hm7⟩
            have HG := Lib.hid (HS6.out.mv hm7).fr
            clear hm7
            go_wp2
            refine ⟨rfl, ?_⟩
            rw [HFIN.out]
            exact ⟨rfl, HG.out.grown⟩
          | cons c r3 =>
            have H4 := Lib.hid (peek_at X l r3 c w6 hm6.1)
            clear hm6
            go_wp2_with fail
            refine H4.out.mono ?_
            rintro e w7 ⟨rfl, hm7⟩
            have HS7 := Lib.hid (HS6.out.mv hm7)
            clear hm7 H4
            have HL := Lib.hid (fun wz (hz : RT wz X l r3) => letters_at X l r3 c false hl wz hz)
            have HK7 := Lib.hid (skip_at X l (c :: r3) 1 (by simp) hl w7 HS7.out.rt)
            by_cases hqq : c = 34 ∨ c = 39
            · have HN3 := Lib.hid (show attrM ahead r = (letM c false (r3.length + 1) [] r3).bind fun v r4 => .ok (n, v) (r4.drop 1) by
                rw [HN2.out]
                rw [if_pos (by simpa using hqq)])
              have hb3 : ((c.toNat : Int) != 34) = false ∨ (((c.toNat : Int) != 34) = true ∧ ((c.toNat : Int) != 39) = false) := by
                rcases hqq with rfl | rfl
                · exact .inl rfl
                · exact .inr ⟨rfl, rfl⟩
              clear hqq
              go_upto_region 13 with fail
              go_cut [44] from 15 to 56 (fun t wx => t = .bool false ∧ wx = w7)
              case first =>
                rcases hb3 with h | ⟨h, h2⟩
                · go_wp2_with fail
                  go_meet
                  exact ⟨rfl, rfl⟩
                · go_wp2_with fail
                  go_meet
                  exact ⟨rfl, rfl⟩
              case rest =>
                obtain ⟨rfl, rfl⟩ := hcut
                clear hb3
                go_wp2_with fail
                refine HK7.out.mono ?_
                rintro e w8 ⟨rfl, hm8⟩
                have HS8 := Lib.hid (show S2 w X R (#[.string ⟨#[]⟩, .string ⟨#[]⟩], 68) l r3 w8 from HS7.out.mv hm8)
                have H5 := Lib.hid (HL.out w8 hm8.1)
                clear hm8 HK7
                cases hM : letM c false (r3.length + 1) [] r3 with
                | bad e5 r5 =>
                  have HFIN := Lib.hid (show attrM ahead r = .bad e5 r5 by rw [HN3.out, hM]; rfl)
                  rw [hM] at H5
                  clear hM
                  go_wp2_with fail
                  refine H5.out.mono ?_
                  rintro e w9 ⟨rfl, hm9⟩
                  have HG := Lib.hid (HS8.out.mv hm9).fr
                  clear hm9
                  go_wp2
                  refine ⟨rfl, ?_⟩
                  rw [HFIN.out]
                  exact ⟨rfl, HG.out.grown⟩
                | ok v r5 =>
                  obtain ⟨r6, hr6⟩ := let_ok _ hM (by omega)
                  subst hr6
                  have HFIN := Lib.hid (show attrM ahead r = .ok (n, v) r6 by rw [HN3.out, hM]; rfl)
                  rw [hM] at H5
                  clear hM
                  go_wp2_with fail
                  refine H5.out.mono ?_
                  rintro e w9 ⟨rfl, hm9⟩
                  have HS9 := Lib.hid (HS8.out.mv hm9)
                  have H6 := Lib.hid (skip_at X l (c :: r6) 1 (by simp) hl w9 hm9.1)
                  clear hm9 H5
                  go_wp2_with fail
                  refine H6.out.mono ?_
                  rintro e w10 ⟨rfl, hm10⟩
                  have HS10 := Lib.hid (show S2 w X R (#[.string ⟨#[]⟩, .string ⟨#[]⟩], 68) l r6 w10 from HS9.out.mv hm10)
                  have HROW := Lib.hid HS10.out.row
                  clear hm10 H6
                  have hR := HRESULT.out
                  subst hR
                  go_wp2_with (refine wpList_store_row rfl 68 _ _ rfl w.heap.size #[.string (str n), .string (str v)] rfl rfl 68 _ HROW.out (by kernel_rfl) rfl (by simp [Value.oneCell']) ?_)
                  refine bodyPost_ret (attr_results _ _ w.heap.size #[.string (str n), .string (str v)] rfl rfl (setRow_heap _ w.heap.size _ _ _ _ HROW.out)) rfl ?_
                  rw [HFIN.out]
                  refine ⟨rfl, RT.frx ?_ (HS10.out.fr.setRow HRE.out.1)⟩
                  exact ⟨HS10.out.rt.1, (setRow_other w10 w.heap.size X _ (Ne.symm HRE.out.2.1)).trans HS10.out.rt.2⟩
            · have h34 : ((c.toNat : Int) != 34) = true := by
                rw [bne_iff_ne]
                intro h
                exact hqq (.inl (UInt8.toNat_inj.1 (by simpa using (show c.toNat = 34 by omega))))
              have h39 : ((c.toNat : Int) != 39) = true := by
                rw [bne_iff_ne]
                intro h
                exact hqq (.inr (UInt8.toNat_inj.1 (by simpa using (show c.toNat = 39 by omega))))
              have HFIN := Lib.hid (show attrM ahead r = .bad 10 (c :: r3) by
                rw [HN2.out]
                rw [if_neg (by simpa using hqq)])
              have HF := Lib.hid (fail_at X l (c :: r3) 10 w7 HS7.out.rt)
              clear hqq
              go_wp2_with fail
              refine HF.out.mono ?_
              rintro e w8 ⟨rfl, rfl⟩
              go_wp2
              refine ⟨rfl, ?_⟩
              rw [HFIN.out]
              exact ⟨rfl, HS7.out.fr.grown⟩
end Go.Proofs.YtpbkidmdfibaoaaGreatDoor
