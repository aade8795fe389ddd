/-
  Layer 5: the contract of the answer's Parse. Own work.
-/
import Derived.Test.YtnghagikchffiaaDoorRefPm5
import Derived.Test.YtnghagikchffiaaDoorRefMay5
import Derived.Test.YtnghagikchffiaaDoorMeet5b
import Derived.Deep.RegionLaw
import Derived.Deep.Cut
import Derived.Deep.CutRange
import Derived.Deep.CutBlock
namespace Go.Proofs.YtnghagikchffiaaDoor
set_option linter.unusedVariables false
set_option linter.unusedSimpArgs false
open Go.RowKit Go.Joins

set_option maxRecDepth 100000 in
theorem refparse_results (tmps : Array Value) (w : World) (R : Nat) (y0 y1 y2 y : Value) (h2 : tmps.getD 2 undef = .pointer (some ⟨R, 0, none⟩)) (h3 : tmps.getD 3 undef = y)
    (hR : w.heap[R]? = some (.cells #[y0, y1, y2] 25 (0, 0))) :
    (results Tryd.f11 tmps).run Tryd.prog w = .ok (.tuple #[.agg #[y0, y1, y2], y]) w := by
  have h2' : tmps[2]?.getD undef = .pointer (some ⟨R, 0, none⟩) := by simpa using h2
  have h3' : tmps[3]?.getD undef = y := by simpa using h3
  have l1 := run_loadVar_row w R 25 25 #[y0, y1, y2] (0, 0) _ hR Tryd.underlying25 rfl (by kernel_rfl)
  simp [results, Tryd.results11, h2', h3', asAddr, l1]
def RefP (s : ByteArray) (w : World) (e : Ending) (w' : World) : Prop :=
  ∃ (h : Bool) (v : ByteArray) (l : List Iv) (pa : Option Addr) (pc : Nat) (ok : Bool), e = .returned (.tuple #[.agg #[.bool h, .string v, .slice pa l.length pc], .bool ok]) ∧ RdI w' (.slice pa l.length pc) l ∧ Below w.heap.size w w' ∧ ((ok = true ∧ parseM s = some (h, v, l)) ∨ (ok = false ∧ parseM s = none))
/-- what the loop of the answer's Parse keeps -/
def PL (w1 : World) (R : Nat) (t q : List UInt8) (acc : List Iv) (wx : World) : Prop :=
  MR w1 R acc wx ∧ q.length ≤ t.length ∧ acc.length + q.length ≤ t.length ∧ NT q ∧ (∀ p ∈ acc, smallI p) ∧ ∃ n, q.length < n ∧ refIvs (t.length + 1) t = (refIvs n q).map (acc ++ ·)
theorem step6 {P : Program} {w0 : World} {ops : Array Oper} {o : Oper} {a : Act} {K : Act → World → Prop} {Q : Exit → Act → World → Prop} {E : Prop} (p : Iv) (hgd : o.guard = none) (s x : Operand) (t e : TypeId)
    (ho : o.op = .call { callee := .builtin .append, args := #[s, x], argTypes := #[t, t] }) (z : Value) (bytes base n : Nat)
    (ht : P.underlying t = some (.slice e)) (hinfo : (P.info? e).map (fun i => (i.zero, i.size, i.bytes)) = some (some z, 6, bytes)) (hzs : z.cells.size = 6)
    (v : Value) (xs : List Value) (hs : a.eval s = v) (hown : w0.ownsRow base e 6 v n xs) (hx : a.eval x = .slice (some ⟨w0.heap.size, 0, none⟩) 1 1)
    (h63 : n + 1 ≤ 281474976710656) (hbytes : (n + 1) * bytes ≤ 140737488355328) (hbase : base ≤ w0.heap.size)
    (h : ∀ v' w', w'.ownsRow base e 6 v' (n + 1) (xs ++ ivCells p) → w0.grownBy w' v.ownBlock → K (a.put o.dst v') w') :
    if Region.wanted o (yielded ops a.tmps) = true then Oper.wp P o a (w0.alloc (.cells #[.bool p.lo.has, .string p.lo.ver, .bool p.lo.cl, .bool p.hi.has, .string p.hi.ver, .bool p.hi.cl] e)) K Q else E := by
  obtain ⟨i, hi, hz, hsize, hby⟩ := info_parts hinfo
  refine step_append_lies _ hgd s x t ho base e i z 6 bytes ht hi hz hsize hby hzs (by omega) v n xs hs (hown.alloc _) ⟨w0.heap.size, 0, none⟩ 1 1 (ivCells p) hx rfl ?_ (by simp [ivCells, Value.oneCell']) (by omega) (by simp only [maxLen]; omega) hbytes (by simp; omega) (w0.heap.size + 1) (by simp) ?_
  · intro j y hj
    have hadd : (⟨w0.heap.size, 0, none⟩ : Addr).add j = ⟨w0.heap.size, j, none⟩ := by unfold Addr.add; split <;> simp_all
    rw [hadd, cell_of_row _ w0.heap.size j _ e (0, 0) (heap_alloc_new w0 _)]
    have : (#[Value.bool p.lo.has, .string p.lo.ver, .bool p.lo.cl, .bool p.hi.has, .string p.hi.ver, .bool p.hi.cl] : Array Value) = (ivCells p).toArray := rfl
    rw [this]
    simpa using hj
  · intro g cap w' ho' hg _ _
    exact h _ w' ho' ⟨hg.os, hg.tape, hg.output, Nat.le_trans (by simp) hg.size, fun k hk hne => (hg.block k (by simp; omega) hne).trans (Below.heap_alloc _ _ _ hk)⟩
theorem push_mr0 {w1 w0 w' : World} {X : Nat} {e0 : ByteArray} {v v' : Value} {R : List Iv} {mi : Iv} (he0 : e0 = .empty) (hx : w0.heap[X]? = some (.cells #[.bool true, .string e0, v] 25 (0, 0))) (ho : w0.ownsRow (X + 1) 61 6 v R.length (rowI R)) (hb : Below X w1 w0)
    (ho' : w'.ownsRow (X + 1) 61 6 v' (R.length + 1) (rowI R ++ ivCells mi)) (hg : w0.grownBy w' v.ownBlock) : MR w1 X (R ++ [mi]) (w'.setCell ⟨X, 2, none⟩ v') := by
  have hx' := push_row (w1 := w1) hx ho hg
  refine ⟨e0, v', he0, ?_, ?_, ?_⟩
  · have := heap_setCell_same w' X 2 _ _ v' hx'
    simpa using this
  · have := ownsRow_setCell_below ho' (a := ⟨X, 2, none⟩) (by simp) v'
    rw [rowI_snoc, List.length_append]
    exact this
  · have hb' : Below X w1 w' := hb.grown hg (Nat.le_of_lt (Array.getElem?_eq_some_iff.1 hx).1) (fun k hk => by have := (ho.lt k hk).1; omega)
    exact hb'.setCell (Nat.le_refl _) _
/-- what is kept of the row while the ends are made -/
def RowOk (w1 : World) (X : Nat) (e0 : ByteArray) (v : Value) (acc : List Iv) (wx : World) : Prop := wx.heap[X]? = some (.cells #[.bool true, .string e0, v] 25 (0, 0)) ∧ wx.ownsRow (X + 1) 61 6 v acc.length (rowI acc) ∧ Below X w1 wx
theorem RowOk.below {w1 wx wy : World} {X : Nat} {e0 : ByteArray} {v : Value} {acc : List Iv} (h : RowOk w1 X e0 v acc wx) (hb : Below wx.heap.size wx wy) : RowOk w1 X e0 v acc wy :=
  ⟨row_b hb h.1, h.2.1.kept (below_grown hb none) (by cases hc : v.ownBlock <;> simp), h.2.2.trans (hb.mono (Nat.le_of_lt (Array.getElem?_eq_some_iff.1 h.1).1))⟩
theorem word_len (l : List UInt8) : (wordL l).1.length ≤ l.length := by
  unfold wordL
  exact Nat.le_trans (List.takeWhile_sublist goB).length_le (skip_len l)
theorem endOf_small {u : List UInt8} (h : u.length ≤ 1000) (b : Bool) : smallE (endOf u b) := by
  unfold endOf smallE
  split
  · show ByteArray.empty.size ≤ 100000; decide
  · show (str u).size ≤ 100000; rw [str_size]; omega
theorem refIv_small {q r : List UInt8} {p : Iv} (h : refIv q = some (p, r)) (hq : q.length ≤ 1000) : smallI p := by
  have e0 : (q.drop 1).length ≤ 1000 := by rw [List.length_drop]; omega
  have e1 := word_len (q.drop 1)
  have e2 := (word_suf (q.drop 1)).length_le
  have e3 := word_len ((wordL (q.drop 1)).2.drop 1)
  rw [List.length_drop] at e3
  unfold refIv at h
  split at h
  · cases h
  split at h
  · split at h
    · cases h
    · cases h
      exact ⟨endOf_small (by omega) _, endOf_small (by omega) _⟩
  split at h
  · cases h
  split at h
  · cases h
  · cases h
    exact ⟨endOf_small (by omega) _, endOf_small (by omega) _⟩
theorem refP_none {s : ByteArray} {w wx : World} (hb : Below w.heap.size w wx) (hp : parseM s = none) :
    RefP s w (.returned (.tuple #[.agg #[.bool false, .string { data := #[] }, .slice none 0 0], .bool false])) (((wx.setCell ⟨w.heap.size, 0, none⟩ (.bool false)).setCell ⟨w.heap.size, 1, none⟩ (.string { data := #[] })).setCell ⟨w.heap.size, 2, none⟩ (.slice none 0 0)) :=
  ⟨false, ⟨#[]⟩, [], none, 0, false, rfl, .inl ⟨rfl, rfl⟩, below_set3 hb (Nat.le_refl _) _ _ _, .inr ⟨rfl, hp⟩⟩
theorem refIvs_none {n : Nat} {q : List UInt8} (h : refIv q = none) : refIvs n q = none := by
  cases n with
  | zero => rfl
  | succ n => rw [refIvs, h]
theorem pl_none {s : ByteArray} {w1 wx : World} {R : Nat} {t q : List UInt8} {acc : List Iv} (hpm : parseM s = refPM t) (h0 : ¬ (t.headD 0 ≠ 91 ∧ t.headD 0 ≠ 40)) (h : PL w1 R t q acc wx) (hq : refIv q = none) : parseM s = none := by
  obtain ⟨_, _, _, _, _, n, _, hr⟩ := h
  rw [hpm]
  unfold refPM
  rw [if_neg h0, hr, refIvs_none hq]
  rfl
theorem soft_p {s ts : ByteArray} {w wx : World} {mb : Bool} (hb : Below w.heap.size w wx) (hp : parseM s = if mb = true then some (false, ts, []) else none) :
    RefP s w (.returned (.tuple #[.agg #[.bool false, .string ts, .slice none 0 0], .bool mb])) wx :=
  ⟨false, ts, [], none, 0, mb, rfl, .inl ⟨rfl, rfl⟩, hb, by
    cases mb
    · exact .inr ⟨rfl, hp⟩
    · exact .inl ⟨rfl, hp⟩⟩
theorem set3_other {wx : World} {B C : Nat} {o : Obj} (hne : C ≠ B) (h : wx.heap[C]? = some o) (y0 y1 y2 : Value) :
    (((wx.setCell ⟨B, 0, none⟩ y0).setCell ⟨B, 1, none⟩ y1).setCell ⟨B, 2, none⟩ y2).heap[C]? = some o := by
  rw [heap_setCell_other _ ⟨B, 2, none⟩ _ _ (fun e => by simp only at e; omega), heap_setCell_other _ ⟨B, 1, none⟩ _ _ (fun e => by simp only at e; omega), heap_setCell_other _ ⟨B, 0, none⟩ _ _ (fun e => by simp only at e; omega)]
  exact h
theorem ivs_next {t q q2 : List UInt8} {acc : List Iv} {p : Iv} {n : Nat} (href : refIvs (t.length + 1) t = (refIvs (n + 1) q).map (acc ++ ·)) (hun : refIvs (n + 1) q = (refIvs n (skipL (q2.drop 1))).map (p :: ·)) :
    refIvs (t.length + 1) t = (refIvs n (skipL (q2.drop 1))).map ((acc ++ [p]) ++ ·) := by
  rw [href, hun]
  cases refIvs n (skipL (q2.drop 1)) <;> simp
set_option maxRecDepth 100000 in
set_option maxHeartbeats 2000000 in
theorem refParse_any (s : ByteArray) (hs : s.size ≤ 1000) (w : World) :
    Calls Tryd.prog 11 #[.string s] w (RefP s w) := by
  have HTR := Lib.hid (fun w => refTrim_any s (by omega) w)
  go_enter Tryd.func11, Tryd.ntmps11
  go_wp2_with fail
  refine (HTR.out _).mono ?_
  rintro e wq ⟨r, rfl, htr, rfl⟩
  obtain ⟨t, rfl⟩ : ∃ t, r = str t := ⟨_, (str_of r).symm⟩
  have HPM := Lib.hid (parse_ref htr)
  have HNT := Lib.hid (trim_nt_of htr)
  have htl : t.length ≤ 1000 := by
    rcases htr with ⟨F, T, h1, h2, h3, _⟩ | ⟨h1, _⟩
    · have := congrArg ByteArray.size h3
      rw [str_size, ByteArray.size_extract] at this
      omega
    · have := congrArg ByteArray.size h1
      rw [str_size] at this
      have h0 : t.length = 0 := this
      omega
  clear htr
  have hb0 : Below w.heap.size w ((w.alloc (.cells #[.bool false, .string { data := #[] }, .slice none 0 0] 25)).alloc (.cells #[.bool false, .string { data := #[] }, .slice none 0 0] 25)) := ((Below.refl w.heap.size w).alloc (Nat.le_refl _) _).alloc (by simp) _
  have hq1 : ((w.alloc (.cells #[.bool false, .string { data := #[] }, .slice none 0 0] 25)).alloc (.cells #[.bool false, .string { data := #[] }, .slice none 0 0] 25)).heap[w.heap.size]? = some (.cells #[.bool false, .string { data := #[] }, .slice none 0 0] 25 (0, 0)) := (Below.heap_alloc _ _ _ (by simp)).trans (heap_alloc_new w _)
  have hq2 : ((w.alloc (.cells #[.bool false, .string { data := #[] }, .slice none 0 0] 25)).alloc (.cells #[.bool false, .string { data := #[] }, .slice none 0 0] 25)).heap[w.heap.size + 1]? = some (.cells #[.bool false, .string { data := #[] }, .slice none 0 0] 25 (0, 0)) := heap_alloc2_new w _ _
  go_upto_region 3 with fail
  generalize ((w.alloc (.cells #[.bool false, .string { data := #[] }, .slice none 0 0] 25)).alloc (.cells #[.bool false, .string { data := #[] }, .slice none 0 0] 25)) = w1 at hb0 hq1 hq2 ⊢
  have HB1 := Lib.hid hb0
  have Q1 := Lib.hid hq1
  have Q2 := Lib.hid hq2
  clear hb0 hq1 hq2
  have HF := Lib.hid (fun w => first_any t w)
  have hnx := next_hd t
  have h8 := (t.headD 0).toNat_lt
  by_cases h0 : t.headD 0 ≠ 91 ∧ t.headD 0 ≠ 40
  · have hf : (nextS (str t) != 91) = true := by simp only [bne_iff_ne, ne_eq]; exact fun h => h0.1 ((next91 t).1 h)
    have hf2 : (nextS (str t) != 40) = true := by simp only [bne_iff_ne, ne_eq]; exact fun h => h0.2 ((next40 t).1 h)
    have HPM2 := Lib.hid (show parseM s = if mayB false (str t) [] then some (false, str t, []) else none by rw [HPM.out]; unfold refPM; rw [if_pos h0])
    have htz : (str t).size ≤ 1000 := by rw [str_size]; exact htl
    obtain ⟨x0, x1, x2, g2⟩ := row3_cells Q2.out
    have g1 : w1.frozen? ⟨w.heap.size + 1, 1, none⟩ = false := frozen_of_row w1 _ 1 _ _ Q2.out
    clear h0 hnx
    generalize nextS (str t) = f at HF hf hf2
    generalize str t = ts at HF HPM2 htz ⊢
    go_wp2_with fail
    refine (HF.out _).mono ?_
    rintro e wz ⟨rfl, rfl⟩
    go_wp2_with fail
    refine (HF.out _).mono ?_
    rintro e wz ⟨rfl, rfl⟩
    go_upto_region 5 with fail
    have hx : (wz.setCell ⟨w.heap.size + 1, 1, none⟩ (.string ts)).heap[w.heap.size + 1]? = some (.cells #[.bool false, .string ts, .slice none 0 0] 25 (0, 0)) := by
      have := heap_setCell_same wz (w.heap.size + 1) 1 _ _ (.string ts) Q2.out
      simpa using this
    have hq : (wz.setCell ⟨w.heap.size + 1, 1, none⟩ (.string ts)).heap[w.heap.size]? = some (.cells #[.bool false, .string { data := #[] }, .slice none 0 0] 25 (0, 0)) := (((Below.refl (w.heap.size + 1) wz).setCell (Nat.le_refl _) _).block _ (by omega)).trans Q1.out
    have hb : Below w.heap.size w (wz.setCell ⟨w.heap.size + 1, 1, none⟩ (.string ts)) := HB1.out.setCell (by simp) _
    generalize (wz.setCell ⟨w.heap.size + 1, 1, none⟩ (.string ts)) = w2 at hx hq hb ⊢
    have HX := Lib.hid hx
    have HQ := Lib.hid hq
    have HB := Lib.hid hb
    have HMY := Lib.hid (fun w' => refMay_any false ts (.slice none 0 0) [] (by omega) (by simp) w' (.inl ⟨rfl, rfl⟩))
    generalize mayB false ts [] = mb at HMY HPM2
    clear hx hq hb x0 x1 x2 g2 g1 hf hf2
    refine wp_region_held_drew (S := fun w' => w'.heap[w.heap.size + 1]? = some (.cells #[.bool false, .string ts, .slice none 0 0] 25 (0, 0))) (by kernel_rfl) (by (try dsimp only); exact HX.out) (fun hHeld => ?_)
    refine wpAnyH_take (i := 0) (v := ?_) (by (simp only [List.getElem?_toArray, List.getElem?_cons_succ, List.getElem?_cons_zero]; rfl)) (by kernel_rfl) (by kernel_rfl) (by kernel_rfl) (by intro _ _ _ h; exact h) (Or.inl ⟨by rfl, ?_⟩) (by assumption) ?_
    rotate_left
    · (intro wv hSw; (try dsimp only at hSw); obtain ⟨a0, a1, a2, _⟩ := row3_cells hSw; go_simp; try (with_reducible rfl))
    simp only [Act.put, List.setIfInBounds_toArray, List.set_cons_zero, List.set_cons_succ]
    refine wpAnyH_take (i := 1) (v := ?_) (by (simp only [List.getElem?_toArray, List.getElem?_cons_succ, List.getElem?_cons_zero]; rfl)) (by kernel_rfl) (by kernel_rfl) (by kernel_rfl) (by intro _ _ _ h; exact h) (Or.inl ⟨by rfl, ?_⟩) (by assumption) ?_
    rotate_left
    · (intro wv hSw; (try dsimp only at hSw); obtain ⟨a0, a1, a2, _⟩ := row3_cells hSw; go_simp; try (with_reducible rfl))
    simp only [Act.put, List.setIfInBounds_toArray, List.set_cons_zero, List.set_cons_succ]
    refine wpAnyH_ready (rs := [2]) (by kernel_rfl) (by simp) ?_
    refine AllReadyH.cons (by (simp only [List.getElem?_toArray, List.getElem?_cons_succ, List.getElem?_cons_zero]; rfl)) (fun K hK => ?_) AllReadyH.nil
    go_simp
    go_at_call 15
    with_reducible refine (HMY.out _).mono ?_
    rintro e w3 ⟨rfl, hb3⟩
    go_wp2_with fail
    have HX3 := Lib.hid (row_b hb3 HX.out)
    have HQ3 := Lib.hid (row_b hb3 HQ.out)
    have HB3 := Lib.hid ((below_drewN' HB.out 1).trans (hb3.mono HB.out.size))
    clear hb3
    refine hK.out _ _ (by (try dsimp only); exact HX3.out) (fun hHeld => ?_)
    clear hK K
    try simp only [Act.put, List.setIfInBounds_toArray, List.set_cons_zero, List.set_cons_succ]
    refine wpAnyH_ready (rs := [3]) (by kernel_rfl) (by simp) ?_
    refine AllReadyH.cons (by (simp only [List.getElem?_toArray, List.getElem?_cons_succ, List.getElem?_cons_zero]; rfl)) (fun K hK => ?_) AllReadyH.nil
    obtain ⟨x0, x1, x2, fx2⟩ := row3_cells HQ3.out
    have fx0 := frozen_of_row _ w.heap.size 0 _ _ HQ3.out
    have fx1 := frozen_of_row _ w.heap.size 1 _ _ HQ3.out
    go_simp
    refine hK.out _ _ (by (try dsimp only); exact set3_other (by omega) HX3.out _ _ _) (fun hHeld => ?_)
    clear hK K
    try simp only [Act.put, List.setIfInBounds_toArray, List.set_cons_zero, List.set_cons_succ]
    clear x0 x1 x2 fx0 fx1 fx2
    refine wpAnyH_take (i := 4) (v := ?_) (by (simp only [List.getElem?_toArray, List.getElem?_cons_succ, List.getElem?_cons_zero]; rfl)) (by kernel_rfl) (by kernel_rfl) (by kernel_rfl) (by intro _ _ _ h; exact h) (Or.inl ⟨by rfl, ?_⟩) (by assumption) ?_
    rotate_left
    · (intro wv hSw; (try dsimp only at hSw); obtain ⟨a0, a1, a2, _⟩ := row3_cells hSw; go_simp; try (with_reducible rfl))
    simp only [Act.put, List.setIfInBounds_toArray, List.set_cons_zero, List.set_cons_succ]
    refine wpAnyH_done (by kernel_rfl) ?_ _
    go_wp2
    refine bodyPost_ret (refparse_results _ _ w.heap.size _ _ _ _ rfl rfl (row_set3 (.bool false) (.string ts) (.slice none 0 0) _ HQ3.out)) rfl ?_
    exact soft_p (below_set3 HB3.out (Nat.le_refl _) _ _ _) HPM2.out
  · have ho : (nextS (str t) != 91) = false ∨ (nextS (str t) != 40) = false := by
      by_cases h : t.headD 0 = 91
      · left; rw [(next91 t).2 h]; rfl
      · right
        have h40 : t.headD 0 = 40 := Classical.not_not.1 fun h2 => h0 ⟨h, h2⟩
        rw [(next40 t).2 h40]; rfl
    go_cut [21] from 14 to 115 (fun u wx => u = .bool false ∧ w1 = wx)
    case first =>
      generalize nextS (str t) = f at HF ho
      clear hnx h0
      by_cases h91 : (f != 91) = false
      · go_wp2_with fail
        refine (HF.out _).mono ?_
        rintro e wz ⟨rfl, rfl⟩
        go_wp2_with fail
        go_meet
        exact ⟨rfl, rfl⟩
      · have h91' : (f != 91) = true := eq_true_of_ne_false h91
        have h40 : (f != 40) = false := by rcases ho with h | h; exact absurd h h91; exact h
        clear ho h91
        go_wp2_with fail
        refine (HF.out _).mono ?_
        rintro e wz ⟨rfl, rfl⟩
        go_wp2_with fail
        refine (HF.out _).mono ?_
        rintro e wz ⟨rfl, rfl⟩
        go_wp2_with fail
        go_meet
        exact ⟨rfl, rfl⟩
    case rest =>
      obtain ⟨rfl, rfl⟩ := hcut
      obtain ⟨x0, x1, x2, g2⟩ := row3_cells Q2.out
      have g0 : w1.frozen? ⟨w.heap.size + 1, 0, none⟩ = false := frozen_of_row w1 _ 0 _ _ Q2.out
      go_upto_block 0 with fail
      have hmr : MR w1 (w.heap.size + 1) [] (w1.setCell ⟨w.heap.size + 1, 0, none⟩ (.bool true)) := by
        refine ⟨⟨#[]⟩, _, rfl, ?_, World.ownsRow_nil _ _ _ _, (Below.refl (w.heap.size + 1) w1).setCell (Nat.le_refl _) _⟩
        have := heap_setCell_same w1 (w.heap.size + 1) 0 _ _ (.bool true) Q2.out
        simpa using this
      have hpl : PL w1 (w.heap.size + 1) t t [] (w1.setCell ⟨w.heap.size + 1, 0, none⟩ (.bool true)) :=
        ⟨hmr, Nat.le_refl _, by simp, HNT.out, by simp, t.length + 1, by omega, by cases refIvs (t.length + 1) t <;> rfl⟩
      generalize (w1.setCell ⟨w.heap.size + 1, 0, none⟩ (.bool true)) = w2 at hpl ⊢
      have HPL := Lib.hid hpl
      clear hmr hpl x0 x1 x2 g2 g0 ho hnx
      have H0 := Lib.hid h0
      clear h0
      have HQN := Lib.hid (show ∀ wx, Below (w.heap.size + 1) w1 wx → wx.heap[w.heap.size]? = some (.cells #[.bool false, .string { data := #[] }, .slice none 0 0] 25 (0, 0)) ∧ Below w.heap.size w wx from fun wx hb => ⟨(hb.block _ (by omega)).trans Q1.out, HB1.out.trans (hb.mono (by omega))⟩)
      go_wp2_with fail
      go_loopw [0] (fun u wr => ∃ (q : List UInt8) (acc : List Iv), u = .string (str q) ∧ PL w1 (w.heap.size + 1) t q acc wr) (fun u _ => match u with | .string b => b.size | _ => 0)
      case atStart => exact ⟨t, [], rfl, HPL.out⟩
      case round =>
        obtain ⟨q, acc, rfl, hpl⟩ := hrel
        have HP := Lib.hid hpl
        have HFQ := Lib.hid (fun w => first_any q w)
        obtain ⟨⟨_, _, _, _, _, hbm⟩, _⟩ := id hpl
        obtain ⟨hqn, hbw⟩ := HQN.out _ hbm
        by_cases hq0 : q.headD 0 ≠ 91 ∧ q.headD 0 ≠ 40
        · have hf : (nextS (str q) != 91) = true := by simp only [bne_iff_ne, ne_eq]; exact fun h => hq0.1 ((next91 q).1 h)
          have hf2 : (nextS (str q) != 40) = true := by simp only [bne_iff_ne, ne_eq]; exact fun h => hq0.2 ((next40 q).1 h)
          have hnone := pl_none HPM.out H0.out hpl (by unfold refIv; rw [if_pos hq0])
          obtain ⟨e0, e1, e2, fe2⟩ := row3_cells hqn
          have fe0 : wr.frozen? ⟨w.heap.size, 0, none⟩ = false := frozen_of_row wr _ 0 _ _ hqn
          have fe1 : wr.frozen? ⟨w.heap.size, 1, none⟩ = false := frozen_of_row wr _ 1 _ _ hqn
          have HQQ := Lib.hid hqn
          have HNN := Lib.hid hnone
          have HBE := Lib.hid hbw
          clear hqn hbw hbm hpl hnone hq0
          generalize nextS (str q) = f at HFQ hf hf2
          go_wp2_with fail
          refine (HFQ.out _).mono ?_
          rintro e wz ⟨rfl, rfl⟩
          go_wp2
          refine bodyPost_ret (refparse_results _ _ w.heap.size _ _ _ _ rfl rfl (row_set3 (.bool false) (.string { data := #[] }) (.slice none 0 0) _ HQQ.out)) rfl ?_
          exact refP_none HBE.out HNN.out
        · have HPN := Lib.hid (fun h => pl_none HPM.out H0.out HP.out h)
          obtain ⟨⟨e0, v, he0, hx, hown, hbx⟩, ql1, ql2, qnt, qsm, n, hn, href⟩ := hpl
          have HREF := Lib.hid href
          obtain ⟨va, vc, rfl⟩ : ∃ a c, v = .slice a acc.length c := by
            rcases ownsRow_forms hown with ⟨rfl, h0⟩ | ⟨g, cap, rfl⟩
            · exact ⟨none, 0, by rw [h0]⟩
            · exact ⟨_, _, rfl⟩
          have HOK := Lib.hid (show RowOk w1 (w.heap.size + 1) e0 (.slice va acc.length vc) acc wr from ⟨hx, hown, hbx⟩)
          have hqp : q ≠ [] := fun h => hq0 (by rw [h]; exact ⟨by decide, by decide⟩)
          have hql : 1 ≤ q.length := by cases q with
            | nil => exact absurd rfl hqp
            | cons c r => simp
          have HIV := Lib.hid (show refIv q = _ by unfold refIv; rw [if_neg hq0])
          have HDR := Lib.hid (drop_str q 1)
          have HWDt := Lib.hid (show ∀ w, Calls Tryd.prog 30 #[.string ((str q).extract 1 (str q).size)] w fun e w' => e = .returned (.tuple #[.string (str (wordL (q.drop 1)).1), .string (str (wordL (q.drop 1)).2)]) ∧ ∃ n, w' = w.drewN n from fun w => by rw [HDR.out]; exact refWord_any (q.drop 1) (by rw [List.length_drop]; omega) w)
          have hqs : (str q).size = q.length := str_size q
          have hqI : (1 : Int) ≤ ((str q).size : Int) := by rw [hqs]; omega
          have hqJ : ((str q).size : Int) ≤ 1000 := by rw [hqs]; omega
          have hfo : (nextS (str q) != 91) = false ∨ (nextS (str q) != 40) = false := by
            by_cases h : q.headD 0 = 91
            · left; rw [(next91 q).2 h]; rfl
            · right; rw [(next40 q).2 (Classical.not_not.1 fun h2 => hq0 ⟨h, h2⟩)]; rfl
          have hf91 : (nextS (str q) == 91) = decide (q.headD 0 = 91) := by
            by_cases h : q.headD 0 = 91
            · rw [(next91 q).2 h, decide_eq_true h]; rfl
            · rw [decide_eq_false h]; apply beq_false_of_ne; exact fun hh => h ((next91 q).1 hh)
          have HF91 := Lib.hid hf91
          have HEO := Lib.hid (fun u b w => refEnd_any u b w)
          have haq : acc.length ≤ 1000 := by omega
          have ha1 := word_len (q.drop 1)
          have hb1 := (word_suf (q.drop 1)).length_le
          rw [List.length_drop] at ha1 hb1
          generalize hA : (wordL (q.drop 1)).1 = A at HIV HWDt ha1
          generalize hBw : (wordL (q.drop 1)).2 = Bw at HIV HWDt hb1
          have hbl : Bw.length ≤ 1000 := by omega
          clear hx hown hbx hqs hqp href hbm hqn hbw hf91 hA hBw HDR
          generalize hfq : nextS (str q) = f at HFQ hfo HF91
          clear hfq
          go_upto_region 8 with (go_at_call 29; with_reducible refine (HFQ.out _).mono ?_; rintro e wz ⟨rfl, rfl⟩)
          go_cut [35] from 30 to 110 (fun u wx => u = .bool false ∧ wz = wx)
          case first =>
            by_cases h91 : (f != 91) = false
            · clear hfo
              go_wp2_with fail
              go_meet
              exact ⟨rfl, rfl⟩
            · have h91' : (f != 91) = true := eq_true_of_ne_false h91
              have h40 : (f != 40) = false := by rcases hfo with h | h; exact absurd h h91; exact h
              clear hfo h91
              go_wp2_with fail
              go_meet
              exact ⟨rfl, rfl⟩
          case rest =>
            obtain ⟨rfl, rfl⟩ := hcut
            clear hfo
            go_wp2_with fail
            refine (HWDt.out _).mono ?_
            rintro e wy ⟨rfl, nd, rfl⟩
            have HOKN := Lib.hid (show RowOk w1 (w.heap.size + 1) e0 (.slice va acc.length vc) acc (wz.drewN nd) from ⟨HOK.out.1, HOK.out.2.1, below_drewN' HOK.out.2.2 nd⟩)
            go_upto_region 11 with fail
            generalize wz.drewN nd = wy at HOKN ⊢
            have HOKY := HOKN
            clear HOKN HOK hqI hqJ
            obtain ⟨bq, hbq⟩ : ∃ bq, bq = decide (q.headD 0 = 91 ∧ Bw.headD 0 = 93) := ⟨_, rfl⟩
            have HBQ := Lib.hid hbq
            clear hbq
            have HFB := Lib.hid (fun w => first_any Bw w)
            have HG93 := Lib.hid (show (nextS (str Bw) == 93) = decide (Bw.headD 0 = 93) by
              by_cases h : Bw.headD 0 = 93
              · rw [(next93 Bw).2 h, decide_eq_true h]; rfl
              · rw [decide_eq_false h]; apply beq_false_of_ne; exact fun hh => h ((next93 Bw).1 hh))
            go_cut [49] from 43 to 110 (fun u wx => u = .bool bq ∧ wy = wx)
            case first =>
              generalize nextS (str Bw) = g at HFB HG93
              by_cases h1 : q.headD 0 = 91
              · have hf : (f == 91) = true := HF91.out.trans (decide_eq_true h1)
                by_cases h2 : Bw.headD 0 = 93
                · have hg : (g == 93) = true := HG93.out.trans (decide_eq_true h2)
                  have hbb : bq = true := HBQ.out.trans (decide_eq_true ⟨h1, h2⟩)
                  subst hbb
                  clear h1 h2
                  go_wp2_with fail
                  refine (HFB.out _).mono ?_
                  rintro e wz ⟨rfl, rfl⟩
                  go_wp2_with fail
                  go_meet
                  exact ⟨rfl, rfl⟩
                · have hg : (g == 93) = false := HG93.out.trans (decide_eq_false h2)
                  have hbb : bq = false := HBQ.out.trans (decide_eq_false (fun h => h2 h.2))
                  subst hbb
                  clear h1 h2
                  go_wp2_with fail
                  refine (HFB.out _).mono ?_
                  rintro e wz ⟨rfl, rfl⟩
                  go_wp2_with fail
                  go_meet
                  exact ⟨rfl, rfl⟩
              · have hf : (f == 91) = false := HF91.out.trans (decide_eq_false h1)
                have hbb : bq = false := HBQ.out.trans (decide_eq_false (fun h => h1 h.1))
                subst hbb
                clear h1
                go_wp2_with fail
                go_meet
                exact ⟨rfl, rfl⟩
            case rest =>
              obtain ⟨rfl, rfl⟩ := hcut
              go_upto_if 49 with fail
              go_cut [0] from 43 to 110 (fun u wx => ∃ (q2 : List UInt8) (p : Iv), u = .string (str q2) ∧ refIv q = some (p, q2) ∧ MR w1 (w.heap.size + 1) (acc ++ [p]) wx)
              case first =>
                cases bq
                · have hnb : ¬ (q.headD 0 = 91 ∧ Bw.headD 0 = 93) := of_decide_eq_false HBQ.out.symm
                  have HIV2 := Lib.hid (HIV.out.trans (if_neg hnb))
                  clear hnb
                  by_cases h44 : Bw.headD 0 ≠ 44
                  · have hg : (nextS (str Bw) != 44) = true := by simp only [bne_iff_ne, ne_eq]; exact fun h => h44 ((next44 Bw).1 h)
                    obtain ⟨hqn2, hbw2⟩ := HQN.out _ HOKY.out.2.2
                    obtain ⟨e0', e1', e2', fe2⟩ := row3_cells hqn2
                    have fe0 : wy.frozen? ⟨w.heap.size, 0, none⟩ = false := frozen_of_row wy _ 0 _ _ hqn2
                    have fe1 : wy.frozen? ⟨w.heap.size, 1, none⟩ = false := frozen_of_row wy _ 1 _ _ hqn2
                    have HQQ := Lib.hid hqn2
                    have HNN := Lib.hid (HPN.out (HIV2.out.trans (if_pos h44)))
                    have HBE := Lib.hid hbw2
                    clear hqn2 hbw2
                    clear h44
                    generalize nextS (str Bw) = g at HFB hg
                    go_wp2_with fail
                    refine (HFB.out _).mono ?_
                    rintro e wz2 ⟨rfl, rfl⟩
                    go_wp2
                    refine bodyPost_ret (refparse_results _ _ w.heap.size _ _ _ _ rfl rfl (row_set3 (.bool false) (.string { data := #[] }) (.slice none 0 0) _ HQQ.out)) rfl ?_
                    exact refP_none HBE.out HNN.out
                  · have hg : (nextS (str Bw) != 44) = false := by rw [(next44 Bw).2 (Classical.not_not.1 h44)]; rfl
                    have HIV3 := Lib.hid (HIV2.out.trans (if_neg h44))
                    have hbz : (str Bw).size = Bw.length := str_size Bw
                    have hb1' : 1 ≤ Bw.length := by
                      have := Classical.not_not.1 h44
                      cases Bw with
                      | nil => exact absurd this (by decide)
                      | cons c r => simp
                    have hbI : (1 : Int) ≤ ((str Bw).size : Int) := by rw [hbz]; omega
                    have hbJ : ((str Bw).size : Int) ≤ 1000 := by rw [hbz]; omega
                    have HWD2 := Lib.hid (show ∀ w, Calls Tryd.prog 30 #[.string ((str Bw).extract 1 (str Bw).size)] w fun e w' => e = .returned (.tuple #[.string (str (wordL (Bw.drop 1)).1), .string (str (wordL (Bw.drop 1)).2)]) ∧ ∃ n, w' = w.drewN n from fun w => by rw [drop_str]; exact refWord_any (Bw.drop 1) (by rw [List.length_drop]; omega) w)
                    have hd1 := (word_suf (Bw.drop 1)).length_le
                    rw [List.length_drop] at hd1
                    generalize hC : (wordL (Bw.drop 1)).1 = C2 at HIV3 HWD2
                    generalize hD : (wordL (Bw.drop 1)).2 = D at HIV3 HWD2 hd1
                    clear hbz h44 HIV2 hC hD
                    generalize nextS (str Bw) = g at HFB hg
                    go_wp2_with fail
                    refine (HFB.out _).mono ?_
                    rintro e wz2 ⟨rfl, rfl⟩
                    go_wp2_with fail
                    refine (HWD2.out _).mono ?_
                    rintro e wz3 ⟨rfl, nd2, rfl⟩
                    have HOKN := Lib.hid (show RowOk w1 (w.heap.size + 1) e0 (.slice va acc.length vc) acc (wz2.drewN nd2) from ⟨HOKY.out.1, HOKY.out.2.1, below_drewN' HOKY.out.2.2 nd2⟩)
                    go_upto_region 19 with fail
                    generalize wz2.drewN nd2 = wy at HOKN ⊢
                    clear HOKY
                    have HOKY := HOKN
                    clear HOKN
                    have HFD := Lib.hid (fun w => first_any D w)
                    obtain ⟨ss, hss⟩ : ∃ ss, ss = decide (D.headD 0 = 93) := ⟨_, rfl⟩
                    have hs93 : (nextS (str D) == 93) = ss := by
                      rw [hss]
                      by_cases h : D.headD 0 = 93
                      · rw [(next93 D).2 h, decide_eq_true h]; rfl
                      · rw [decide_eq_false h]; apply beq_false_of_ne; exact fun hh => h ((next93 D).1 hh)
                    have hn93 : (nextS (str D) != 93) = !ss := by rw [bne, hs93]
                    by_cases hno : D.headD 0 ≠ 93 ∧ D.headD 0 ≠ 41
                    · have hd : (nextS (str D) != 93) = true := by simp only [bne_iff_ne, ne_eq]; exact fun h => hno.1 ((next93 D).1 h)
                      have hd2 : (nextS (str D) != 41) = true := by simp only [bne_iff_ne, ne_eq]; exact fun h => hno.2 ((next41 D).1 h)
                      obtain ⟨hqn2, hbw2⟩ := HQN.out _ HOKY.out.2.2
                      obtain ⟨e0', e1', e2', fe2⟩ := row3_cells hqn2
                      have fe0 : wy.frozen? ⟨w.heap.size, 0, none⟩ = false := frozen_of_row wy _ 0 _ _ hqn2
                      have fe1 : wy.frozen? ⟨w.heap.size, 1, none⟩ = false := frozen_of_row wy _ 1 _ _ hqn2
                      have HQQ := Lib.hid hqn2
                      have HNN := Lib.hid (HPN.out (HIV3.out.trans (if_pos hno)))
                      have HBE := Lib.hid hbw2
                      clear hqn2 hbw2
                      clear hno hss hs93 hn93
                      generalize nextS (str D) = g2 at HFD hd hd2
                      go_wp2_with fail
                      refine (HFD.out _).mono ?_
                      rintro e wz4 ⟨rfl, rfl⟩
                      go_wp2
                      refine bodyPost_ret (refparse_results _ _ w.heap.size _ _ _ _ rfl rfl (row_set3 (.bool false) (.string { data := #[] }) (.slice none 0 0) _ HQQ.out)) rfl ?_
                      exact refP_none HBE.out HNN.out
                    · have HIV4 := Lib.hid (HIV3.out.trans (if_neg hno))
                      have hd2 : ss = false → (nextS (str D) != 41) = false := fun h => by
                        have h93 : ¬ D.headD 0 = 93 := of_decide_eq_false (hss.symm.trans h)
                        rw [(next41 D).2 (Classical.not_not.1 fun h2 => hno ⟨h93, h2⟩)]; rfl
                      have HD2 := Lib.hid hd2
                      have hdl : 1 ≤ D.length := by
                        cases D with
                        | nil => exact absurd ⟨by decide, by decide⟩ hno
                        | cons c r => simp
                      have hdz : (str D).size = D.length := str_size D
                      have hdI : (1 : Int) ≤ ((str D).size : Int) := by rw [hdz]; omega
                      have hdJ : ((str D).size : Int) ≤ 1000 := by rw [hdz]; omega
                      have HSKt := Lib.hid (show ∀ w, Calls Tryd.prog 32 #[.string ((str D).extract 1 (str D).size)] w fun e w' => e = .returned (.string (str (skipL (D.drop 1)))) ∧ w' = w from fun w => by rw [drop_str]; exact skip_any _ (by rw [List.length_drop]; omega) w)
                      obtain ⟨oo, hoo⟩ : ∃ oo, oo = decide (q.headD 0 = 91) := ⟨_, rfl⟩
                      have hf : (f == 91) = oo := HF91.out.trans hoo.symm
                      have HIV5 := Lib.hid (show refIv q = some (⟨endOf A oo, endOf C2 ss⟩, skipL (D.drop 1)) by rw [hoo, hss]; exact HIV4.out)
                      have HE1 := Lib.hid (HEO.out A oo)
                      have HE2 := Lib.hid (HEO.out C2 ss)
                      unfold enV at HE1 HE2
                      have HS93 := Lib.hid hs93
                      have HN93 := Lib.hid hn93
                      have HFO := Lib.hid hf
                      clear hno hss hoo hd2 hdz HIV4 HIV3 hs93 hn93 hf
                      generalize nextS (str D) = g2 at HFD HS93 HN93 HD2
                      go_wp2_with fail
                      refine (HFD.out _).mono ?_
                      rintro e wz4 ⟨rfl, rfl⟩
                      go_upto_region 20 with fail
                      go_cut [83] from 78 to 110 (fun u wx => u = .bool false ∧ wz4 = wx)
                      case first =>
                        have hn := HN93.out
                        cases ss
                        · have hd := HD2.out rfl
                          go_wp2_with fail
                          go_meet
                          exact ⟨rfl, rfl⟩
                        · go_wp2_with fail
                          go_meet
                          exact ⟨rfl, rfl⟩
                      case rest =>
                        obtain ⟨rfl, rfl⟩ := hcut
                        go_upto_region 22 with fail
                        have hok := HOKY.out
                        have hf := HFO.out
                        have hs93 := HS93.out
                        generalize wz4 = wg at hok HOKY ⊢
                        go_cut [] from 85 to 110 (fun wx => MR w1 (w.heap.size + 1) (acc ++ [⟨endOf A oo, endOf C2 ss⟩]) wx)
                        case first =>
                          refine wp_region_noPanic ?_
                          refine wp_region_held_drew (S := fun _ => True) (by kernel_rfl) trivial (fun hh0 => ?_)
                          have hok0 : RowOk w1 (w.heap.size + 1) e0 (.slice va acc.length vc) acc wg.drew := ⟨hok.1, hok.2.1, hok.2.2.drew⟩
                          refine wpAnyH_take (i := 0) (v := ?_) (by (simp only [List.getElem?_toArray, List.getElem?_cons_succ, List.getElem?_cons_zero]; rfl)) (by kernel_rfl) (by kernel_rfl) (by kernel_rfl) (by intro _ _ _ h; exact h) (Or.inl ⟨by rfl, ?_⟩) (by assumption) ?_
                          rotate_left
                          · (intro w hSw; (try dsimp only at hSw); go_simp; try (with_reducible rfl))
                          simp only [Act.put, List.setIfInBounds_toArray, List.set_cons_zero, List.set_cons_succ]
                          refine wpAnyH_take (i := 2) (v := ?_) (by (simp only [List.getElem?_toArray, List.getElem?_cons_succ, List.getElem?_cons_zero]; rfl)) (by kernel_rfl) (by kernel_rfl) (by kernel_rfl) (by intro _ _ _ h; exact h) (Or.inl ⟨by rfl, ?_⟩) (by assumption) ?_
                          rotate_left
                          · (intro w hSw; (try dsimp only at hSw); go_simp; try (with_reducible rfl))
                          simp only [Act.put, List.setIfInBounds_toArray, List.set_cons_zero, List.set_cons_succ]
                          refine wpAnyH_take (i := 3) (v := ?_) (by (simp only [List.getElem?_toArray, List.getElem?_cons_succ, List.getElem?_cons_zero]; rfl)) (by kernel_rfl) (by kernel_rfl) (by kernel_rfl) (by intro _ _ _ h; exact h) (Or.inl ⟨by rfl, ?_⟩) (by assumption) ?_
                          rotate_left
                          · (intro w hSw; (try dsimp only at hSw); go_simp; try (with_reducible rfl))
                          simp only [Act.put, List.setIfInBounds_toArray, List.set_cons_zero, List.set_cons_succ]
                          refine wpAnyH_take (i := 4) (v := ?_) (by (simp only [List.getElem?_toArray, List.getElem?_cons_succ, List.getElem?_cons_zero]; rfl)) (by kernel_rfl) (by kernel_rfl) (by kernel_rfl) (by intro _ _ _ h; exact h) (Or.inl ⟨by rfl, ?_⟩) (by assumption) ?_
                          rotate_left
                          · (intro w hSw; (try dsimp only at hSw); go_simp; try (with_reducible rfl))
                          simp only [Act.put, List.setIfInBounds_toArray, List.set_cons_zero, List.set_cons_succ]
                          refine wpAnyH_take (i := 6) (v := ?_) (by (simp only [List.getElem?_toArray, List.getElem?_cons_succ, List.getElem?_cons_zero]; rfl)) (by kernel_rfl) (by kernel_rfl) (by kernel_rfl) (by intro _ _ _ h; exact h) (Or.inl ⟨by rfl, ?_⟩) (by assumption) ?_
                          rotate_left
                          · (intro w hSw; (try dsimp only at hSw); go_simp; try (with_reducible rfl))
                          simp only [Act.put, List.setIfInBounds_toArray, List.set_cons_zero, List.set_cons_succ]
                          refine wpAnyH_take (i := 7) (v := ?_) (by (simp only [List.getElem?_toArray, List.getElem?_cons_succ, List.getElem?_cons_zero]; rfl)) (by kernel_rfl) (by kernel_rfl) (by kernel_rfl) (by intro _ _ _ h; exact h) (Or.inl ⟨by rfl, ?_⟩) (by assumption) ?_
                          rotate_left
                          · (intro w hSw; (try dsimp only at hSw); go_simp; try (with_reducible rfl))
                          simp only [Act.put, List.setIfInBounds_toArray, List.set_cons_zero, List.set_cons_succ]
                          refine wpAnyH_take (i := 8) (v := ?_) (by (simp only [List.getElem?_toArray, List.getElem?_cons_succ, List.getElem?_cons_zero]; rfl)) (by kernel_rfl) (by kernel_rfl) (by kernel_rfl) (by intro _ _ _ h; exact h) (Or.inl ⟨by rfl, ?_⟩) (by assumption) ?_
                          rotate_left
                          · (intro w hSw; (try dsimp only at hSw); go_simp; try (with_reducible rfl))
                          simp only [Act.put, List.setIfInBounds_toArray, List.set_cons_zero, List.set_cons_succ]
                          refine wpAnyH_ready (rs := [1, 5]) (by kernel_rfl) (by simp) ?_
                          refine AllReadyH.cons (by (simp only [List.getElem?_toArray, List.getElem?_cons_succ, List.getElem?_cons_zero]; rfl)) (fun K hK => ?_) (AllReadyH.cons (by (simp only [List.getElem?_toArray, List.getElem?_cons_succ, List.getElem?_cons_zero]; rfl)) (fun K hK => ?_) AllReadyH.nil)
                          · skip
                            obtain ⟨_, _, xl, _⟩ := row3_cells hok0.1
                            go_simp
                            refine hK.out _ _ trivial (fun _ => ?_)
                            clear hK K
                            try simp only [Act.put, List.setIfInBounds_toArray, List.set_cons_zero, List.set_cons_succ]
                            clear xl
                            refine wpAnyH_ready (rs := [5]) (by kernel_rfl) (by simp) ?_
                            refine AllReadyH.cons (by (simp only [List.getElem?_toArray, List.getElem?_cons_succ, List.getElem?_cons_zero]; rfl)) (fun K hK => ?_) AllReadyH.nil
                            go_simp
                            go_at_call 31
                            with_reducible refine (HE1.out _).mono ?_
                            rintro e wq1 ⟨rfl, hbq1⟩
                            go_wp2_with fail
                            refine hK.out _ _ trivial (fun _ => ?_)
                            clear hK K
                            try simp only [Act.put, List.setIfInBounds_toArray, List.set_cons_zero, List.set_cons_succ]
                            have hok1 := hok0.below hbq1
                            refine wpAnyH_ready (rs := [9]) (by kernel_rfl) (by simp) ?_
                            refine AllReadyH.cons (by (simp only [List.getElem?_toArray, List.getElem?_cons_succ, List.getElem?_cons_zero]; rfl)) (fun K hK => ?_) AllReadyH.nil
                            go_simp
                            go_at_call 31
                            with_reducible refine (HE2.out _).mono ?_
                            rintro e wq2 ⟨rfl, hbq2⟩
                            go_wp2_with fail
                            refine hK.out _ _ trivial (fun _ => ?_)
                            clear hK K
                            try simp only [Act.put, List.setIfInBounds_toArray, List.set_cons_zero, List.set_cons_succ]
                            have hok2 := hok1.below hbq2
                            refine wpAnyH_take (i := 10) (v := ?_) (by (simp only [List.getElem?_toArray, List.getElem?_cons_succ, List.getElem?_cons_zero]; rfl)) (by kernel_rfl) (by kernel_rfl) (by kernel_rfl) (by intro _ _ _ h; exact h) (Or.inl ⟨by rfl, ?_⟩) (by assumption) ?_
                            rotate_left
                            · (intro w hSw; (try dsimp only at hSw); go_simp; try (with_reducible rfl))
                            simp only [Act.put, List.setIfInBounds_toArray, List.set_cons_zero, List.set_cons_succ]
                            refine wpAnyH_ready (rs := [11]) (by kernel_rfl) (by simp) ?_
                            refine AllReadyH.cons (by (simp only [List.getElem?_toArray, List.getElem?_cons_succ, List.getElem?_cons_zero]; rfl)) (fun K hK => ?_) AllReadyH.nil
                            go_simp
                            refine hK.out _ _ trivial (fun _ => ?_)
                            clear hK K
                            try simp only [Act.put, List.setIfInBounds_toArray, List.set_cons_zero, List.set_cons_succ]
                            refine wpAnyH_ready (rs := [12]) (by kernel_rfl) (by simp) ?_
                            refine AllReadyH.cons (by (simp only [List.getElem?_toArray, List.getElem?_cons_succ, List.getElem?_cons_zero]; rfl)) (fun K hK => ?_) AllReadyH.nil
                            refine step6 ⟨endOf A oo, endOf C2 ss⟩ rfl _ _ 23 61 rfl (.agg #[.bool false, .string .empty, .bool false, .bool false, .string .empty, .bool false]) 64 (w.heap.size + 1 + 1) acc.length Tryd.underlying23 iv_info rfl (.slice va acc.length vc) _ rfl hok2.2.1 rfl (by omega) (by omega) (Array.getElem?_eq_some_iff.1 hok2.1).1 ?_
                            intro v9 w9 ho9 hg9
                            obtain ⟨g9, c9, rfl⟩ := ownsRow_form ho9 (by omega)
                            refine hK.out _ _ trivial (fun _ => ?_)
                            clear hK K
                            try simp only [Act.put, List.setIfInBounds_toArray, List.set_cons_zero, List.set_cons_succ]
                            refine wpAnyH_take (i := 13) (v := ?_) (by (simp only [List.getElem?_toArray, List.getElem?_cons_succ, List.getElem?_cons_zero]; rfl)) (by kernel_rfl) (by kernel_rfl) (by kernel_rfl) (by intro _ _ _ h; exact h) (Or.inl ⟨by rfl, ?_⟩) (by assumption) ?_
                            rotate_left
                            · (intro w hSw; (try dsimp only at hSw); go_simp; try (with_reducible rfl))
                            simp only [Act.put, List.setIfInBounds_toArray, List.set_cons_zero, List.set_cons_succ]
                            have hE := Lib.hid (push_mr0 (mi := ⟨endOf A oo, endOf C2 ss⟩) he0 hok2.1 hok2.2.1 hok2.2.2 ho9 hg9)
                            obtain ⟨y0, y1, y2, fy2⟩ := row3_cells (push_row (w1 := w1) hok2.1 hok2.2.1 hg9)
                            refine wpAnyH_ready (rs := [14]) (by kernel_rfl) (by simp) ?_
                            refine AllReadyH.cons (by (simp only [List.getElem?_toArray, List.getElem?_cons_succ, List.getElem?_cons_zero]; rfl)) (fun K hK => ?_) AllReadyH.nil
                            go_simp
                            refine hK.out _ _ trivial (fun _ => ?_)
                            clear hK K
                            try simp only [Act.put, List.setIfInBounds_toArray, List.set_cons_zero, List.set_cons_succ]
                            refine wpAnyH_done (by kernel_rfl) ?_ _
                            refine NoPanic.normal ?_
                            go_wp2_with fail
                            go_meet
                            exact hE.out
                          · skip
                            go_simp
                            go_at_call 31
                            with_reducible refine (HE1.out _).mono ?_
                            rintro e wq1 ⟨rfl, hbq1⟩
                            go_wp2_with fail
                            refine hK.out _ _ trivial (fun _ => ?_)
                            clear hK K
                            try simp only [Act.put, List.setIfInBounds_toArray, List.set_cons_zero, List.set_cons_succ]
                            have hok1 := hok0.below hbq1
                            refine wpAnyH_ready (rs := [1, 9]) (by kernel_rfl) (by simp) ?_
                            refine AllReadyH.cons (by (simp only [List.getElem?_toArray, List.getElem?_cons_succ, List.getElem?_cons_zero]; rfl)) (fun K hK => ?_) (AllReadyH.cons (by (simp only [List.getElem?_toArray, List.getElem?_cons_succ, List.getElem?_cons_zero]; rfl)) (fun K hK => ?_) AllReadyH.nil)
                            · skip
                              obtain ⟨_, _, xl, _⟩ := row3_cells hok1.1
                              go_simp
                              refine hK.out _ _ trivial (fun _ => ?_)
                              clear hK K
                              try simp only [Act.put, List.setIfInBounds_toArray, List.set_cons_zero, List.set_cons_succ]
                              clear xl
                              refine wpAnyH_ready (rs := [9]) (by kernel_rfl) (by simp) ?_
                              refine AllReadyH.cons (by (simp only [List.getElem?_toArray, List.getElem?_cons_succ, List.getElem?_cons_zero]; rfl)) (fun K hK => ?_) AllReadyH.nil
                              go_simp
                              go_at_call 31
                              with_reducible refine (HE2.out _).mono ?_
                              rintro e wq2 ⟨rfl, hbq2⟩
                              go_wp2_with fail
                              refine hK.out _ _ trivial (fun _ => ?_)
                              clear hK K
                              try simp only [Act.put, List.setIfInBounds_toArray, List.set_cons_zero, List.set_cons_succ]
                              have hok2 := hok1.below hbq2
                              refine wpAnyH_take (i := 10) (v := ?_) (by (simp only [List.getElem?_toArray, List.getElem?_cons_succ, List.getElem?_cons_zero]; rfl)) (by kernel_rfl) (by kernel_rfl) (by kernel_rfl) (by intro _ _ _ h; exact h) (Or.inl ⟨by rfl, ?_⟩) (by assumption) ?_
                              rotate_left
                              · (intro w hSw; (try dsimp only at hSw); go_simp; try (with_reducible rfl))
                              simp only [Act.put, List.setIfInBounds_toArray, List.set_cons_zero, List.set_cons_succ]
                              refine wpAnyH_ready (rs := [11]) (by kernel_rfl) (by simp) ?_
                              refine AllReadyH.cons (by (simp only [List.getElem?_toArray, List.getElem?_cons_succ, List.getElem?_cons_zero]; rfl)) (fun K hK => ?_) AllReadyH.nil
                              go_simp
                              refine hK.out _ _ trivial (fun _ => ?_)
                              clear hK K
                              try simp only [Act.put, List.setIfInBounds_toArray, List.set_cons_zero, List.set_cons_succ]
                              refine wpAnyH_ready (rs := [12]) (by kernel_rfl) (by simp) ?_
                              refine AllReadyH.cons (by (simp only [List.getElem?_toArray, List.getElem?_cons_succ, List.getElem?_cons_zero]; rfl)) (fun K hK => ?_) AllReadyH.nil
                              refine step6 ⟨endOf A oo, endOf C2 ss⟩ rfl _ _ 23 61 rfl (.agg #[.bool false, .string .empty, .bool false, .bool false, .string .empty, .bool false]) 64 (w.heap.size + 1 + 1) acc.length Tryd.underlying23 iv_info rfl (.slice va acc.length vc) _ rfl hok2.2.1 rfl (by omega) (by omega) (Array.getElem?_eq_some_iff.1 hok2.1).1 ?_
                              intro v9 w9 ho9 hg9
                              obtain ⟨g9, c9, rfl⟩ := ownsRow_form ho9 (by omega)
                              refine hK.out _ _ trivial (fun _ => ?_)
                              clear hK K
                              try simp only [Act.put, List.setIfInBounds_toArray, List.set_cons_zero, List.set_cons_succ]
                              refine wpAnyH_take (i := 13) (v := ?_) (by (simp only [List.getElem?_toArray, List.getElem?_cons_succ, List.getElem?_cons_zero]; rfl)) (by kernel_rfl) (by kernel_rfl) (by kernel_rfl) (by intro _ _ _ h; exact h) (Or.inl ⟨by rfl, ?_⟩) (by assumption) ?_
                              rotate_left
                              · (intro w hSw; (try dsimp only at hSw); go_simp; try (with_reducible rfl))
                              simp only [Act.put, List.setIfInBounds_toArray, List.set_cons_zero, List.set_cons_succ]
                              have hE := Lib.hid (push_mr0 (mi := ⟨endOf A oo, endOf C2 ss⟩) he0 hok2.1 hok2.2.1 hok2.2.2 ho9 hg9)
                              obtain ⟨y0, y1, y2, fy2⟩ := row3_cells (push_row (w1 := w1) hok2.1 hok2.2.1 hg9)
                              refine wpAnyH_ready (rs := [14]) (by kernel_rfl) (by simp) ?_
                              refine AllReadyH.cons (by (simp only [List.getElem?_toArray, List.getElem?_cons_succ, List.getElem?_cons_zero]; rfl)) (fun K hK => ?_) AllReadyH.nil
                              go_simp
                              refine hK.out _ _ trivial (fun _ => ?_)
                              clear hK K
                              try simp only [Act.put, List.setIfInBounds_toArray, List.set_cons_zero, List.set_cons_succ]
                              refine wpAnyH_done (by kernel_rfl) ?_ _
                              refine NoPanic.normal ?_
                              go_wp2_with fail
                              go_meet
                              exact hE.out
                            · skip
                              go_simp
                              go_at_call 31
                              with_reducible refine (HE2.out _).mono ?_
                              rintro e wq2 ⟨rfl, hbq2⟩
                              go_wp2_with fail
                              refine hK.out _ _ trivial (fun _ => ?_)
                              clear hK K
                              try simp only [Act.put, List.setIfInBounds_toArray, List.set_cons_zero, List.set_cons_succ]
                              have hok2 := hok1.below hbq2
                              refine wpAnyH_take (i := 10) (v := ?_) (by (simp only [List.getElem?_toArray, List.getElem?_cons_succ, List.getElem?_cons_zero]; rfl)) (by kernel_rfl) (by kernel_rfl) (by kernel_rfl) (by intro _ _ _ h; exact h) (Or.inl ⟨by rfl, ?_⟩) (by assumption) ?_
                              rotate_left
                              · (intro w hSw; (try dsimp only at hSw); go_simp; try (with_reducible rfl))
                              simp only [Act.put, List.setIfInBounds_toArray, List.set_cons_zero, List.set_cons_succ]
                              refine wpAnyH_ready (rs := [1, 11]) (by kernel_rfl) (by simp) ?_
                              refine AllReadyH.cons (by (simp only [List.getElem?_toArray, List.getElem?_cons_succ, List.getElem?_cons_zero]; rfl)) (fun K hK => ?_) (AllReadyH.cons (by (simp only [List.getElem?_toArray, List.getElem?_cons_succ, List.getElem?_cons_zero]; rfl)) (fun K hK => ?_) AllReadyH.nil)
                              · skip
                                obtain ⟨_, _, xl, _⟩ := row3_cells hok2.1
                                go_simp
                                refine hK.out _ _ trivial (fun _ => ?_)
                                clear hK K
                                try simp only [Act.put, List.setIfInBounds_toArray, List.set_cons_zero, List.set_cons_succ]
                                clear xl
                                refine wpAnyH_ready (rs := [11]) (by kernel_rfl) (by simp) ?_
                                refine AllReadyH.cons (by (simp only [List.getElem?_toArray, List.getElem?_cons_succ, List.getElem?_cons_zero]; rfl)) (fun K hK => ?_) AllReadyH.nil
                                go_simp
                                refine hK.out _ _ trivial (fun _ => ?_)
                                clear hK K
                                try simp only [Act.put, List.setIfInBounds_toArray, List.set_cons_zero, List.set_cons_succ]
                                refine wpAnyH_ready (rs := [12]) (by kernel_rfl) (by simp) ?_
                                refine AllReadyH.cons (by (simp only [List.getElem?_toArray, List.getElem?_cons_succ, List.getElem?_cons_zero]; rfl)) (fun K hK => ?_) AllReadyH.nil
                                refine step6 ⟨endOf A oo, endOf C2 ss⟩ rfl _ _ 23 61 rfl (.agg #[.bool false, .string .empty, .bool false, .bool false, .string .empty, .bool false]) 64 (w.heap.size + 1 + 1) acc.length Tryd.underlying23 iv_info rfl (.slice va acc.length vc) _ rfl hok2.2.1 rfl (by omega) (by omega) (Array.getElem?_eq_some_iff.1 hok2.1).1 ?_
                                intro v9 w9 ho9 hg9
                                obtain ⟨g9, c9, rfl⟩ := ownsRow_form ho9 (by omega)
                                refine hK.out _ _ trivial (fun _ => ?_)
                                clear hK K
                                try simp only [Act.put, List.setIfInBounds_toArray, List.set_cons_zero, List.set_cons_succ]
                                refine wpAnyH_take (i := 13) (v := ?_) (by (simp only [List.getElem?_toArray, List.getElem?_cons_succ, List.getElem?_cons_zero]; rfl)) (by kernel_rfl) (by kernel_rfl) (by kernel_rfl) (by intro _ _ _ h; exact h) (Or.inl ⟨by rfl, ?_⟩) (by assumption) ?_
                                rotate_left
                                · (intro w hSw; (try dsimp only at hSw); go_simp; try (with_reducible rfl))
                                simp only [Act.put, List.setIfInBounds_toArray, List.set_cons_zero, List.set_cons_succ]
                                have hE := Lib.hid (push_mr0 (mi := ⟨endOf A oo, endOf C2 ss⟩) he0 hok2.1 hok2.2.1 hok2.2.2 ho9 hg9)
                                obtain ⟨y0, y1, y2, fy2⟩ := row3_cells (push_row (w1 := w1) hok2.1 hok2.2.1 hg9)
                                refine wpAnyH_ready (rs := [14]) (by kernel_rfl) (by simp) ?_
                                refine AllReadyH.cons (by (simp only [List.getElem?_toArray, List.getElem?_cons_succ, List.getElem?_cons_zero]; rfl)) (fun K hK => ?_) AllReadyH.nil
                                go_simp
                                refine hK.out _ _ trivial (fun _ => ?_)
                                clear hK K
                                try simp only [Act.put, List.setIfInBounds_toArray, List.set_cons_zero, List.set_cons_succ]
                                refine wpAnyH_done (by kernel_rfl) ?_ _
                                refine NoPanic.normal ?_
                                go_wp2_with fail
                                go_meet
                                exact hE.out
                              · skip
                                go_simp
                                refine hK.out _ _ trivial (fun _ => ?_)
                                clear hK K
                                try simp only [Act.put, List.setIfInBounds_toArray, List.set_cons_zero, List.set_cons_succ]
                                refine wpAnyH_ready (rs := [1]) (by kernel_rfl) (by simp) ?_
                                refine AllReadyH.cons (by (simp only [List.getElem?_toArray, List.getElem?_cons_succ, List.getElem?_cons_zero]; rfl)) (fun K hK => ?_) AllReadyH.nil
                                have hokA := hok2.below ((Below.refl _ _).alloc (Nat.le_refl _) (.cells #[.bool (endOf A oo).has, .string (endOf A oo).ver, .bool (endOf A oo).cl, .bool (endOf C2 ss).has, .string (endOf C2 ss).ver, .bool (endOf C2 ss).cl] 61))
                                obtain ⟨_, _, xl, _⟩ := row3_cells hokA.1
                                go_simp
                                refine hK.out _ _ trivial (fun _ => ?_)
                                clear hK K
                                try simp only [Act.put, List.setIfInBounds_toArray, List.set_cons_zero, List.set_cons_succ]
                                clear xl
                                refine wpAnyH_ready (rs := [12]) (by kernel_rfl) (by simp) ?_
                                refine AllReadyH.cons (by (simp only [List.getElem?_toArray, List.getElem?_cons_succ, List.getElem?_cons_zero]; rfl)) (fun K hK => ?_) AllReadyH.nil
                                refine step6 ⟨endOf A oo, endOf C2 ss⟩ rfl _ _ 23 61 rfl (.agg #[.bool false, .string .empty, .bool false, .bool false, .string .empty, .bool false]) 64 (w.heap.size + 1 + 1) acc.length Tryd.underlying23 iv_info rfl (.slice va acc.length vc) _ rfl hok2.2.1 rfl (by omega) (by omega) (Array.getElem?_eq_some_iff.1 hok2.1).1 ?_
                                intro v9 w9 ho9 hg9
                                obtain ⟨g9, c9, rfl⟩ := ownsRow_form ho9 (by omega)
                                refine hK.out _ _ trivial (fun _ => ?_)
                                clear hK K
                                try simp only [Act.put, List.setIfInBounds_toArray, List.set_cons_zero, List.set_cons_succ]
                                refine wpAnyH_take (i := 13) (v := ?_) (by (simp only [List.getElem?_toArray, List.getElem?_cons_succ, List.getElem?_cons_zero]; rfl)) (by kernel_rfl) (by kernel_rfl) (by kernel_rfl) (by intro _ _ _ h; exact h) (Or.inl ⟨by rfl, ?_⟩) (by assumption) ?_
                                rotate_left
                                · (intro w hSw; (try dsimp only at hSw); go_simp; try (with_reducible rfl))
                                simp only [Act.put, List.setIfInBounds_toArray, List.set_cons_zero, List.set_cons_succ]
                                have hE := Lib.hid (push_mr0 (mi := ⟨endOf A oo, endOf C2 ss⟩) he0 hok2.1 hok2.2.1 hok2.2.2 ho9 hg9)
                                obtain ⟨y0, y1, y2, fy2⟩ := row3_cells (push_row (w1 := w1) hok2.1 hok2.2.1 hg9)
                                refine wpAnyH_ready (rs := [14]) (by kernel_rfl) (by simp) ?_
                                refine AllReadyH.cons (by (simp only [List.getElem?_toArray, List.getElem?_cons_succ, List.getElem?_cons_zero]; rfl)) (fun K hK => ?_) AllReadyH.nil
                                go_simp
                                refine hK.out _ _ trivial (fun _ => ?_)
                                clear hK K
                                try simp only [Act.put, List.setIfInBounds_toArray, List.set_cons_zero, List.set_cons_succ]
                                refine wpAnyH_done (by kernel_rfl) ?_ _
                                refine NoPanic.normal ?_
                                go_wp2_with fail
                                go_meet
                                exact hE.out
                        case rest =>
                          have HMR := Lib.hid hcut
                          clear hcut hok hf hs93
                          go_wp2_with fail
                          refine (HSKt.out _).mono ?_
                          rintro e wz5 ⟨rfl, rfl⟩
                          go_wp2_with fail
                          go_meet
                          exact ⟨_, _, rfl, by rw [HIV5.out, List.drop_one], HMR.out⟩
                · have hb : q.headD 0 = 91 ∧ Bw.headD 0 = 93 := of_decide_eq_true HBQ.out.symm
                  have HIV2 := Lib.hid (HIV.out.trans (if_pos hb))
                  have hem := emp_is (str A)
                  rw [str_size] at hem
                  by_cases hA0 : A = []
                  · have hem' : ((str A).toList == ([] : List UInt8)) = true := by rw [hem, hA0]; rfl
                    obtain ⟨hqn2, hbw2⟩ := HQN.out _ HOKY.out.2.2
                    obtain ⟨e0', e1', e2', fe2⟩ := row3_cells hqn2
                    have fe0 : wy.frozen? ⟨w.heap.size, 0, none⟩ = false := frozen_of_row wy _ 0 _ _ hqn2
                    have fe1 : wy.frozen? ⟨w.heap.size, 1, none⟩ = false := frozen_of_row wy _ 1 _ _ hqn2
                    have HQQ := Lib.hid hqn2
                    have HNN := Lib.hid (HPN.out (HIV2.out.trans (if_pos hA0)))
                    have HBE := Lib.hid hbw2
                    clear hqn2 hbw2
                    clear hem hA0
                    go_wp2
                    refine bodyPost_ret (refparse_results _ _ w.heap.size _ _ _ _ rfl rfl (row_set3 (.bool false) (.string { data := #[] }) (.slice none 0 0) _ HQQ.out)) rfl ?_
                    exact refP_none HBE.out HNN.out
                  · have hem' : ((str A).toList == ([] : List UInt8)) = false := by
                      rw [hem]
                      exact decide_eq_false (fun h => hA0 (List.eq_nil_of_length_eq_zero h))
                    have HIV3 := Lib.hid (HIV2.out.trans (if_neg hA0))
                    have HE1 := Lib.hid (HEO.out A true)
                    unfold enV at HE1
                    have hb93 := hb.2
                    clear hem hA0 hb
                    go_upto_region 14 with fail
                    have hok := HOKY.out
                    generalize wy = wg at hok HOKY ⊢
                    go_cut [] from 53 to 110 (fun wx => MR w1 (w.heap.size + 1) (acc ++ [⟨endOf A true, endOf A true⟩]) wx)
                    case first =>
                      refine wp_region_noPanic ?_
                      refine wp_region_held_drew (S := fun _ => True) (by kernel_rfl) trivial (fun hh0 => ?_)
                      have hok0 : RowOk w1 (w.heap.size + 1) e0 (.slice va acc.length vc) acc wg.drew := ⟨hok.1, hok.2.1, hok.2.2.drew⟩
                      refine wpAnyH_take (i := 0) (v := ?_) (by (simp only [List.getElem?_toArray, List.getElem?_cons_succ, List.getElem?_cons_zero]; rfl)) (by kernel_rfl) (by kernel_rfl) (by kernel_rfl) (by intro _ _ _ h; exact h) (Or.inl ⟨by rfl, ?_⟩) (by assumption) ?_
                      rotate_left
                      · (intro w hSw; (try dsimp only at hSw); go_simp; try (with_reducible rfl))
                      simp only [Act.put, List.setIfInBounds_toArray, List.set_cons_zero, List.set_cons_succ]
                      refine wpAnyH_take (i := 2) (v := ?_) (by (simp only [List.getElem?_toArray, List.getElem?_cons_succ, List.getElem?_cons_zero]; rfl)) (by kernel_rfl) (by kernel_rfl) (by kernel_rfl) (by intro _ _ _ h; exact h) (Or.inl ⟨by rfl, ?_⟩) (by assumption) ?_
                      rotate_left
                      · (intro w hSw; (try dsimp only at hSw); go_simp; try (with_reducible rfl))
                      simp only [Act.put, List.setIfInBounds_toArray, List.set_cons_zero, List.set_cons_succ]
                      refine wpAnyH_take (i := 4) (v := ?_) (by (simp only [List.getElem?_toArray, List.getElem?_cons_succ, List.getElem?_cons_zero]; rfl)) (by kernel_rfl) (by kernel_rfl) (by kernel_rfl) (by intro _ _ _ h; exact h) (Or.inl ⟨by rfl, ?_⟩) (by assumption) ?_
                      rotate_left
                      · (intro w hSw; (try dsimp only at hSw); go_simp; try (with_reducible rfl))
                      simp only [Act.put, List.setIfInBounds_toArray, List.set_cons_zero, List.set_cons_succ]
                      refine wpAnyH_ready (rs := [1, 3]) (by kernel_rfl) (by simp) ?_
                      refine AllReadyH.cons (by (simp only [List.getElem?_toArray, List.getElem?_cons_succ, List.getElem?_cons_zero]; rfl)) (fun K hK => ?_) (AllReadyH.cons (by (simp only [List.getElem?_toArray, List.getElem?_cons_succ, List.getElem?_cons_zero]; rfl)) (fun K hK => ?_) AllReadyH.nil)
                      · skip
                        obtain ⟨_, _, xl, _⟩ := row3_cells hok0.1
                        go_simp
                        refine hK.out _ _ trivial (fun _ => ?_)
                        clear hK K
                        try simp only [Act.put, List.setIfInBounds_toArray, List.set_cons_zero, List.set_cons_succ]
                        clear xl
                        refine wpAnyH_ready (rs := [3]) (by kernel_rfl) (by simp) ?_
                        refine AllReadyH.cons (by (simp only [List.getElem?_toArray, List.getElem?_cons_succ, List.getElem?_cons_zero]; rfl)) (fun K hK => ?_) AllReadyH.nil
                        go_simp
                        go_at_call 31
                        with_reducible refine (HE1.out _).mono ?_
                        rintro e wq1 ⟨rfl, hbq1⟩
                        go_wp2_with fail
                        refine hK.out _ _ trivial (fun _ => ?_)
                        clear hK K
                        try simp only [Act.put, List.setIfInBounds_toArray, List.set_cons_zero, List.set_cons_succ]
                        have hok1 := hok0.below hbq1
                        refine wpAnyH_ready (rs := [5]) (by kernel_rfl) (by simp) ?_
                        refine AllReadyH.cons (by (simp only [List.getElem?_toArray, List.getElem?_cons_succ, List.getElem?_cons_zero]; rfl)) (fun K hK => ?_) AllReadyH.nil
                        go_simp
                        go_at_call 31
                        with_reducible refine (HE1.out _).mono ?_
                        rintro e wq2 ⟨rfl, hbq2⟩
                        go_wp2_with fail
                        refine hK.out _ _ trivial (fun _ => ?_)
                        clear hK K
                        try simp only [Act.put, List.setIfInBounds_toArray, List.set_cons_zero, List.set_cons_succ]
                        have hok2 := hok1.below hbq2
                        refine wpAnyH_take (i := 6) (v := ?_) (by (simp only [List.getElem?_toArray, List.getElem?_cons_succ, List.getElem?_cons_zero]; rfl)) (by kernel_rfl) (by kernel_rfl) (by kernel_rfl) (by intro _ _ _ h; exact h) (Or.inl ⟨by rfl, ?_⟩) (by assumption) ?_
                        rotate_left
                        · (intro w hSw; (try dsimp only at hSw); go_simp; try (with_reducible rfl))
                        simp only [Act.put, List.setIfInBounds_toArray, List.set_cons_zero, List.set_cons_succ]
                        refine wpAnyH_ready (rs := [7]) (by kernel_rfl) (by simp) ?_
                        refine AllReadyH.cons (by (simp only [List.getElem?_toArray, List.getElem?_cons_succ, List.getElem?_cons_zero]; rfl)) (fun K hK => ?_) AllReadyH.nil
                        go_simp
                        refine hK.out _ _ trivial (fun _ => ?_)
                        clear hK K
                        try simp only [Act.put, List.setIfInBounds_toArray, List.set_cons_zero, List.set_cons_succ]
                        refine wpAnyH_ready (rs := [8]) (by kernel_rfl) (by simp) ?_
                        refine AllReadyH.cons (by (simp only [List.getElem?_toArray, List.getElem?_cons_succ, List.getElem?_cons_zero]; rfl)) (fun K hK => ?_) AllReadyH.nil
                        refine step6 ⟨endOf A true, endOf A true⟩ rfl _ _ 23 61 rfl (.agg #[.bool false, .string .empty, .bool false, .bool false, .string .empty, .bool false]) 64 (w.heap.size + 1 + 1) acc.length Tryd.underlying23 iv_info rfl (.slice va acc.length vc) _ rfl hok2.2.1 rfl (by omega) (by omega) (Array.getElem?_eq_some_iff.1 hok2.1).1 ?_
                        intro v9 w9 ho9 hg9
                        obtain ⟨g9, c9, rfl⟩ := ownsRow_form ho9 (by omega)
                        refine hK.out _ _ trivial (fun _ => ?_)
                        clear hK K
                        try simp only [Act.put, List.setIfInBounds_toArray, List.set_cons_zero, List.set_cons_succ]
                        refine wpAnyH_take (i := 9) (v := ?_) (by (simp only [List.getElem?_toArray, List.getElem?_cons_succ, List.getElem?_cons_zero]; rfl)) (by kernel_rfl) (by kernel_rfl) (by kernel_rfl) (by intro _ _ _ h; exact h) (Or.inl ⟨by rfl, ?_⟩) (by assumption) ?_
                        rotate_left
                        · (intro w hSw; (try dsimp only at hSw); go_simp; try (with_reducible rfl))
                        simp only [Act.put, List.setIfInBounds_toArray, List.set_cons_zero, List.set_cons_succ]
                        have hE := Lib.hid (push_mr0 (mi := ⟨endOf A true, endOf A true⟩) he0 hok2.1 hok2.2.1 hok2.2.2 ho9 hg9)
                        obtain ⟨y0, y1, y2, fy2⟩ := row3_cells (push_row (w1 := w1) hok2.1 hok2.2.1 hg9)
                        refine wpAnyH_ready (rs := [10]) (by kernel_rfl) (by simp) ?_
                        refine AllReadyH.cons (by (simp only [List.getElem?_toArray, List.getElem?_cons_succ, List.getElem?_cons_zero]; rfl)) (fun K hK => ?_) AllReadyH.nil
                        go_simp
                        refine hK.out _ _ trivial (fun _ => ?_)
                        clear hK K
                        try simp only [Act.put, List.setIfInBounds_toArray, List.set_cons_zero, List.set_cons_succ]
                        refine wpAnyH_done (by kernel_rfl) ?_ _
                        refine NoPanic.normal ?_
                        go_wp2_with fail
                        go_meet
                        exact hE.out
                      · skip
                        go_simp
                        go_at_call 31
                        with_reducible refine (HE1.out _).mono ?_
                        rintro e wq1 ⟨rfl, hbq1⟩
                        go_wp2_with fail
                        refine hK.out _ _ trivial (fun _ => ?_)
                        clear hK K
                        try simp only [Act.put, List.setIfInBounds_toArray, List.set_cons_zero, List.set_cons_succ]
                        have hok1 := hok0.below hbq1
                        refine wpAnyH_ready (rs := [1, 5]) (by kernel_rfl) (by simp) ?_
                        refine AllReadyH.cons (by (simp only [List.getElem?_toArray, List.getElem?_cons_succ, List.getElem?_cons_zero]; rfl)) (fun K hK => ?_) (AllReadyH.cons (by (simp only [List.getElem?_toArray, List.getElem?_cons_succ, List.getElem?_cons_zero]; rfl)) (fun K hK => ?_) AllReadyH.nil)
                        · skip
                          obtain ⟨_, _, xl, _⟩ := row3_cells hok1.1
                          go_simp
                          refine hK.out _ _ trivial (fun _ => ?_)
                          clear hK K
                          try simp only [Act.put, List.setIfInBounds_toArray, List.set_cons_zero, List.set_cons_succ]
                          clear xl
                          refine wpAnyH_ready (rs := [5]) (by kernel_rfl) (by simp) ?_
                          refine AllReadyH.cons (by (simp only [List.getElem?_toArray, List.getElem?_cons_succ, List.getElem?_cons_zero]; rfl)) (fun K hK => ?_) AllReadyH.nil
                          go_simp
                          go_at_call 31
                          with_reducible refine (HE1.out _).mono ?_
                          rintro e wq2 ⟨rfl, hbq2⟩
                          go_wp2_with fail
                          refine hK.out _ _ trivial (fun _ => ?_)
                          clear hK K
                          try simp only [Act.put, List.setIfInBounds_toArray, List.set_cons_zero, List.set_cons_succ]
                          have hok2 := hok1.below hbq2
                          refine wpAnyH_take (i := 6) (v := ?_) (by (simp only [List.getElem?_toArray, List.getElem?_cons_succ, List.getElem?_cons_zero]; rfl)) (by kernel_rfl) (by kernel_rfl) (by kernel_rfl) (by intro _ _ _ h; exact h) (Or.inl ⟨by rfl, ?_⟩) (by assumption) ?_
                          rotate_left
                          · (intro w hSw; (try dsimp only at hSw); go_simp; try (with_reducible rfl))
                          simp only [Act.put, List.setIfInBounds_toArray, List.set_cons_zero, List.set_cons_succ]
                          refine wpAnyH_ready (rs := [7]) (by kernel_rfl) (by simp) ?_
                          refine AllReadyH.cons (by (simp only [List.getElem?_toArray, List.getElem?_cons_succ, List.getElem?_cons_zero]; rfl)) (fun K hK => ?_) AllReadyH.nil
                          go_simp
                          refine hK.out _ _ trivial (fun _ => ?_)
                          clear hK K
                          try simp only [Act.put, List.setIfInBounds_toArray, List.set_cons_zero, List.set_cons_succ]
                          refine wpAnyH_ready (rs := [8]) (by kernel_rfl) (by simp) ?_
                          refine AllReadyH.cons (by (simp only [List.getElem?_toArray, List.getElem?_cons_succ, List.getElem?_cons_zero]; rfl)) (fun K hK => ?_) AllReadyH.nil
                          refine step6 ⟨endOf A true, endOf A true⟩ rfl _ _ 23 61 rfl (.agg #[.bool false, .string .empty, .bool false, .bool false, .string .empty, .bool false]) 64 (w.heap.size + 1 + 1) acc.length Tryd.underlying23 iv_info rfl (.slice va acc.length vc) _ rfl hok2.2.1 rfl (by omega) (by omega) (Array.getElem?_eq_some_iff.1 hok2.1).1 ?_
                          intro v9 w9 ho9 hg9
                          obtain ⟨g9, c9, rfl⟩ := ownsRow_form ho9 (by omega)
                          refine hK.out _ _ trivial (fun _ => ?_)
                          clear hK K
                          try simp only [Act.put, List.setIfInBounds_toArray, List.set_cons_zero, List.set_cons_succ]
                          refine wpAnyH_take (i := 9) (v := ?_) (by (simp only [List.getElem?_toArray, List.getElem?_cons_succ, List.getElem?_cons_zero]; rfl)) (by kernel_rfl) (by kernel_rfl) (by kernel_rfl) (by intro _ _ _ h; exact h) (Or.inl ⟨by rfl, ?_⟩) (by assumption) ?_
                          rotate_left
                          · (intro w hSw; (try dsimp only at hSw); go_simp; try (with_reducible rfl))
                          simp only [Act.put, List.setIfInBounds_toArray, List.set_cons_zero, List.set_cons_succ]
                          have hE := Lib.hid (push_mr0 (mi := ⟨endOf A true, endOf A true⟩) he0 hok2.1 hok2.2.1 hok2.2.2 ho9 hg9)
                          obtain ⟨y0, y1, y2, fy2⟩ := row3_cells (push_row (w1 := w1) hok2.1 hok2.2.1 hg9)
                          refine wpAnyH_ready (rs := [10]) (by kernel_rfl) (by simp) ?_
                          refine AllReadyH.cons (by (simp only [List.getElem?_toArray, List.getElem?_cons_succ, List.getElem?_cons_zero]; rfl)) (fun K hK => ?_) AllReadyH.nil
                          go_simp
                          refine hK.out _ _ trivial (fun _ => ?_)
                          clear hK K
                          try simp only [Act.put, List.setIfInBounds_toArray, List.set_cons_zero, List.set_cons_succ]
                          refine wpAnyH_done (by kernel_rfl) ?_ _
                          refine NoPanic.normal ?_
                          go_wp2_with fail
                          go_meet
                          exact hE.out
                        · skip
                          go_simp
                          go_at_call 31
                          with_reducible refine (HE1.out _).mono ?_
                          rintro e wq2 ⟨rfl, hbq2⟩
                          go_wp2_with fail
                          refine hK.out _ _ trivial (fun _ => ?_)
                          clear hK K
                          try simp only [Act.put, List.setIfInBounds_toArray, List.set_cons_zero, List.set_cons_succ]
                          have hok2 := hok1.below hbq2
                          refine wpAnyH_take (i := 6) (v := ?_) (by (simp only [List.getElem?_toArray, List.getElem?_cons_succ, List.getElem?_cons_zero]; rfl)) (by kernel_rfl) (by kernel_rfl) (by kernel_rfl) (by intro _ _ _ h; exact h) (Or.inl ⟨by rfl, ?_⟩) (by assumption) ?_
                          rotate_left
                          · (intro w hSw; (try dsimp only at hSw); go_simp; try (with_reducible rfl))
                          simp only [Act.put, List.setIfInBounds_toArray, List.set_cons_zero, List.set_cons_succ]
                          refine wpAnyH_ready (rs := [1, 7]) (by kernel_rfl) (by simp) ?_
                          refine AllReadyH.cons (by (simp only [List.getElem?_toArray, List.getElem?_cons_succ, List.getElem?_cons_zero]; rfl)) (fun K hK => ?_) (AllReadyH.cons (by (simp only [List.getElem?_toArray, List.getElem?_cons_succ, List.getElem?_cons_zero]; rfl)) (fun K hK => ?_) AllReadyH.nil)
                          · skip
                            obtain ⟨_, _, xl, _⟩ := row3_cells hok2.1
                            go_simp
                            refine hK.out _ _ trivial (fun _ => ?_)
                            clear hK K
                            try simp only [Act.put, List.setIfInBounds_toArray, List.set_cons_zero, List.set_cons_succ]
                            clear xl
                            refine wpAnyH_ready (rs := [7]) (by kernel_rfl) (by simp) ?_
                            refine AllReadyH.cons (by (simp only [List.getElem?_toArray, List.getElem?_cons_succ, List.getElem?_cons_zero]; rfl)) (fun K hK => ?_) AllReadyH.nil
                            go_simp
                            refine hK.out _ _ trivial (fun _ => ?_)
                            clear hK K
                            try simp only [Act.put, List.setIfInBounds_toArray, List.set_cons_zero, List.set_cons_succ]
                            refine wpAnyH_ready (rs := [8]) (by kernel_rfl) (by simp) ?_
                            refine AllReadyH.cons (by (simp only [List.getElem?_toArray, List.getElem?_cons_succ, List.getElem?_cons_zero]; rfl)) (fun K hK => ?_) AllReadyH.nil
                            refine step6 ⟨endOf A true, endOf A true⟩ rfl _ _ 23 61 rfl (.agg #[.bool false, .string .empty, .bool false, .bool false, .string .empty, .bool false]) 64 (w.heap.size + 1 + 1) acc.length Tryd.underlying23 iv_info rfl (.slice va acc.length vc) _ rfl hok2.2.1 rfl (by omega) (by omega) (Array.getElem?_eq_some_iff.1 hok2.1).1 ?_
                            intro v9 w9 ho9 hg9
                            obtain ⟨g9, c9, rfl⟩ := ownsRow_form ho9 (by omega)
                            refine hK.out _ _ trivial (fun _ => ?_)
                            clear hK K
                            try simp only [Act.put, List.setIfInBounds_toArray, List.set_cons_zero, List.set_cons_succ]
                            refine wpAnyH_take (i := 9) (v := ?_) (by (simp only [List.getElem?_toArray, List.getElem?_cons_succ, List.getElem?_cons_zero]; rfl)) (by kernel_rfl) (by kernel_rfl) (by kernel_rfl) (by intro _ _ _ h; exact h) (Or.inl ⟨by rfl, ?_⟩) (by assumption) ?_
                            rotate_left
                            · (intro w hSw; (try dsimp only at hSw); go_simp; try (with_reducible rfl))
                            simp only [Act.put, List.setIfInBounds_toArray, List.set_cons_zero, List.set_cons_succ]
                            have hE := Lib.hid (push_mr0 (mi := ⟨endOf A true, endOf A true⟩) he0 hok2.1 hok2.2.1 hok2.2.2 ho9 hg9)
                            obtain ⟨y0, y1, y2, fy2⟩ := row3_cells (push_row (w1 := w1) hok2.1 hok2.2.1 hg9)
                            refine wpAnyH_ready (rs := [10]) (by kernel_rfl) (by simp) ?_
                            refine AllReadyH.cons (by (simp only [List.getElem?_toArray, List.getElem?_cons_succ, List.getElem?_cons_zero]; rfl)) (fun K hK => ?_) AllReadyH.nil
                            go_simp
                            refine hK.out _ _ trivial (fun _ => ?_)
                            clear hK K
                            try simp only [Act.put, List.setIfInBounds_toArray, List.set_cons_zero, List.set_cons_succ]
                            refine wpAnyH_done (by kernel_rfl) ?_ _
                            refine NoPanic.normal ?_
                            go_wp2_with fail
                            go_meet
                            exact hE.out
                          · skip
                            go_simp
                            refine hK.out _ _ trivial (fun _ => ?_)
                            clear hK K
                            try simp only [Act.put, List.setIfInBounds_toArray, List.set_cons_zero, List.set_cons_succ]
                            refine wpAnyH_ready (rs := [1]) (by kernel_rfl) (by simp) ?_
                            refine AllReadyH.cons (by (simp only [List.getElem?_toArray, List.getElem?_cons_succ, List.getElem?_cons_zero]; rfl)) (fun K hK => ?_) AllReadyH.nil
                            have hokA := hok2.below ((Below.refl _ _).alloc (Nat.le_refl _) (.cells #[.bool (endOf A true).has, .string (endOf A true).ver, .bool (endOf A true).cl, .bool (endOf A true).has, .string (endOf A true).ver, .bool (endOf A true).cl] 61))
                            obtain ⟨_, _, xl, _⟩ := row3_cells hokA.1
                            go_simp
                            refine hK.out _ _ trivial (fun _ => ?_)
                            clear hK K
                            try simp only [Act.put, List.setIfInBounds_toArray, List.set_cons_zero, List.set_cons_succ]
                            clear xl
                            refine wpAnyH_ready (rs := [8]) (by kernel_rfl) (by simp) ?_
                            refine AllReadyH.cons (by (simp only [List.getElem?_toArray, List.getElem?_cons_succ, List.getElem?_cons_zero]; rfl)) (fun K hK => ?_) AllReadyH.nil
                            refine step6 ⟨endOf A true, endOf A true⟩ rfl _ _ 23 61 rfl (.agg #[.bool false, .string .empty, .bool false, .bool false, .string .empty, .bool false]) 64 (w.heap.size + 1 + 1) acc.length Tryd.underlying23 iv_info rfl (.slice va acc.length vc) _ rfl hok2.2.1 rfl (by omega) (by omega) (Array.getElem?_eq_some_iff.1 hok2.1).1 ?_
                            intro v9 w9 ho9 hg9
                            obtain ⟨g9, c9, rfl⟩ := ownsRow_form ho9 (by omega)
                            refine hK.out _ _ trivial (fun _ => ?_)
                            clear hK K
                            try simp only [Act.put, List.setIfInBounds_toArray, List.set_cons_zero, List.set_cons_succ]
                            refine wpAnyH_take (i := 9) (v := ?_) (by (simp only [List.getElem?_toArray, List.getElem?_cons_succ, List.getElem?_cons_zero]; rfl)) (by kernel_rfl) (by kernel_rfl) (by kernel_rfl) (by intro _ _ _ h; exact h) (Or.inl ⟨by rfl, ?_⟩) (by assumption) ?_
                            rotate_left
                            · (intro w hSw; (try dsimp only at hSw); go_simp; try (with_reducible rfl))
                            simp only [Act.put, List.setIfInBounds_toArray, List.set_cons_zero, List.set_cons_succ]
                            have hE := Lib.hid (push_mr0 (mi := ⟨endOf A true, endOf A true⟩) he0 hok2.1 hok2.2.1 hok2.2.2 ho9 hg9)
                            obtain ⟨y0, y1, y2, fy2⟩ := row3_cells (push_row (w1 := w1) hok2.1 hok2.2.1 hg9)
                            refine wpAnyH_ready (rs := [10]) (by kernel_rfl) (by simp) ?_
                            refine AllReadyH.cons (by (simp only [List.getElem?_toArray, List.getElem?_cons_succ, List.getElem?_cons_zero]; rfl)) (fun K hK => ?_) AllReadyH.nil
                            go_simp
                            refine hK.out _ _ trivial (fun _ => ?_)
                            clear hK K
                            try simp only [Act.put, List.setIfInBounds_toArray, List.set_cons_zero, List.set_cons_succ]
                            refine wpAnyH_done (by kernel_rfl) ?_ _
                            refine NoPanic.normal ?_
                            go_wp2_with fail
                            go_meet
                            exact hE.out
                    case rest =>
                      have HMR := Lib.hid hcut
                      have hbz : (str Bw).size = Bw.length := str_size Bw
                      have hb1' : 1 ≤ Bw.length := by
                        have := hb93
                        cases Bw with
                        | nil => exact absurd this (by decide)
                        | cons c r => simp
                      have HSKt := Lib.hid (show ∀ w, Calls Tryd.prog 32 #[.string ((str Bw).extract 1 (str Bw).size)] w fun e w' => e = .returned (.string (str (skipL (Bw.drop 1)))) ∧ w' = w from fun w => by rw [drop_str]; exact skip_any _ (by rw [List.length_drop]; omega) w)
                      have hbI : (1 : Int) ≤ ((str Bw).size : Int) := by rw [hbz]; omega
                      have hbJ : ((str Bw).size : Int) ≤ 1000 := by rw [hbz]; omega
                      clear hcut hbz hb1' hok hb93
                      go_wp2_with fail
                      refine (HSKt.out _).mono ?_
                      rintro e wz2 ⟨rfl, rfl⟩
                      go_wp2_with fail
                      go_meet
                      exact ⟨_, _, rfl, by rw [HIV3.out, List.drop_one], HMR.out⟩
              case rest =>
                obtain ⟨q2, p, rfl, hri, hmr⟩ := hcut
                have hiv := iv_ref qnt
                rw [hri] at hiv
                obtain ⟨_, _, hnt2, hlt2⟩ := hiv
                have hps : smallI p := refIv_small hri (by omega)
                have HMR := Lib.hid hmr
                obtain ⟨e9, v9, he9, hx9, hown9, hb9⟩ := hmr
                obtain ⟨hqn9, hbw9⟩ := HQN.out _ hb9
                obtain ⟨a9, c9, rfl⟩ := rd_shape (RdI.of_own hown9)
                have hsm' : ∀ p' ∈ acc ++ [p], smallI p' := by
                  intro p' h
                  rcases List.mem_append.1 h with h | h
                  · exact qsm _ h
                  · rw [List.mem_singleton.1 h]; exact hps
                have hem := emp_is (str q2)
                rw [str_size] at hem
                obtain ⟨n, rfl⟩ : ∃ n', n = n' + 1 := ⟨n - 1, by omega⟩
                have hun : refIvs (n + 1) q = if q2 = [] then some [p] else if q2.headD 0 ≠ 44 then none else (refIvs n (skipL (q2.drop 1))).map (p :: ·) := by rw [refIvs, hri]
                have HQQ := Lib.hid hqn9
                have HBE := Lib.hid hbw9
                have HXX := Lib.hid hx9
                have HOO := Lib.hid hown9
                by_cases hq20 : q2 = []
                · have hem' : ((str q2).toList == ([] : List UInt8)) = true := by rw [hem, hq20]; rfl
                  have HPF := Lib.hid (show parseM s = if mayB true e9 (acc ++ [p]) = true then some (true, e9, acc ++ [p]) else none by
                    rw [HPM.out, he9]; unfold refPM; rw [if_neg H0.out, HREF.out, hun, if_pos hq20]; rfl)
                  have HMY := Lib.hid (fun w' hr => refMay_any true e9 (.slice a9 (acc ++ [p]).length c9) (acc ++ [p]) (by rw [he9]; decide) hsm' w' hr)
                  generalize acc ++ [p] = L2 at *
                  generalize mayB true e9 L2 = mb at HMY HPF
                  obtain ⟨y0, y1, y2, fy2⟩ := row3_cells hx9
                  clear hem hq20 hun hqn9 hbw9 hown9 hsm' hps hnt2 hlt2 hri hx9 he9
                  go_wp2_with fail
                  go_at_call 15
                  with_reducible refine (HMY.out _ (RdI.of_own HOO.out)).mono ?_
                  rintro e wm ⟨rfl, hbm⟩
                  have HX' := Lib.hid (row_b hbm HXX.out)
                  have HQ' := Lib.hid (row_b hbm HQQ.out)
                  have HB' := Lib.hid (HBE.out.trans (hbm.mono HBE.out.size))
                  have HO' := Lib.hid (HOO.out.kept (below_grown hbm none) (by cases hc : (Value.slice a9 L2.length c9).ownBlock <;> simp))
                  clear y0 y1 y2 fy2 hbm
                  obtain ⟨y0, y1, y2, fy2⟩ := row3_cells HX'.out
                  obtain ⟨x0, x1, x2, fx2⟩ := row3_cells HQ'.out
                  have fx0 := frozen_of_row _ w.heap.size 0 _ _ HQ'.out
                  have fx1 := frozen_of_row _ w.heap.size 1 _ _ HQ'.out
                  cases mb
                  · go_wp2
                    refine bodyPost_ret (refparse_results _ _ w.heap.size _ _ _ _ rfl rfl (row_set3 (.bool false) (.string { data := #[] }) (.slice none 0 0) _ HQ'.out)) rfl ?_
                    exact refP_none HB'.out HPF.out
                  · go_wp2
                    refine bodyPost_ret (refparse_results _ _ w.heap.size _ _ _ _ rfl rfl (row_set3 (.bool true) (.string e9) (.slice a9 L2.length c9) _ HQ'.out)) rfl ?_
                    exact ⟨true, e9, L2, a9, c9, true, rfl, RdI.of_own (own_sets HO'.out (R := w.heap.size) (by omega) _ _ _), below_set3 HB'.out (Nat.le_refl _) _ _ _, .inl ⟨rfl, HPF.out⟩⟩
                · have hem' : ((str q2).toList == ([] : List UInt8)) = false := by
                    rw [hem]
                    exact decide_eq_false (fun h => hq20 (List.eq_nil_of_length_eq_zero h))
                  have HF2 := Lib.hid (fun w => first_any q2 w)
                  by_cases h44 : q2.headD 0 ≠ 44
                  · have hg : (nextS (str q2) != 44) = true := by simp only [bne_iff_ne, ne_eq]; exact fun h => h44 ((next44 q2).1 h)
                    have HNN := Lib.hid (show parseM s = none by
                      rw [HPM.out]; unfold refPM; rw [if_neg H0.out, HREF.out, hun, if_neg hq20, if_pos h44]; rfl)
                    obtain ⟨x0, x1, x2, fx2⟩ := row3_cells hqn9
                    have fx0 := frozen_of_row _ w.heap.size 0 _ _ hqn9
                    have fx1 := frozen_of_row _ w.heap.size 1 _ _ hqn9
                    clear hem hq20 hun hqn9 hbw9 hown9 hsm' hps hnt2 hlt2 hri hx9 h44
                    generalize nextS (str q2) = g at HF2 hg
                    go_wp2_with fail
                    refine (HF2.out _).mono ?_
                    rintro e wz2 ⟨rfl, rfl⟩
                    go_wp2
                    refine bodyPost_ret (refparse_results _ _ w.heap.size _ _ _ _ rfl rfl (row_set3 (.bool false) (.string { data := #[] }) (.slice none 0 0) _ HQQ.out)) rfl ?_
                    exact refP_none HBE.out HNN.out
                  · have hg : (nextS (str q2) != 44) = false := by rw [(next44 q2).2 (Classical.not_not.1 h44)]; rfl
                    have hl1 : 1 ≤ q2.length := by
                      cases q2 with
                      | nil => exact absurd rfl hq20
                      | cons c r => simp
                    have hlz : (str q2).size = q2.length := str_size q2
                    have hbI : (1 : Int) ≤ ((str q2).size : Int) := by rw [hlz]; omega
                    have hbJ : ((str q2).size : Int) ≤ 1000 := by rw [hlz]; omega
                    have HSKt := Lib.hid (show ∀ w, Calls Tryd.prog 32 #[.string ((str q2).extract 1 (str q2).size)] w fun e w' => e = .returned (.string (str (skipL (q2.drop 1)))) ∧ w' = w from fun w => by rw [drop_str]; exact skip_any _ (by rw [List.length_drop]; omega) w)
                    have hsl := skip_len (q2.drop 1)
                    rw [List.length_drop] at hsl
                    have HNX := Lib.hid (ivs_next (n := n) (q2 := q2) (p := p) HREF.out (hun.trans ((if_neg hq20).trans (if_neg h44))))
                    have HNT2 := Lib.hid (hnt2.suf ((skip_suf (q2.drop 1)).trans (List.drop_suffix 1 q2)))
                    have HSM2 := Lib.hid hsm'
                    generalize hk : skipL (q2.drop 1) = q3 at HSKt HNX HNT2 hsl
                    generalize nextS (str q2) = g at HF2 hg
                    clear hem hq20 hun hqn9 hbw9 hown9 hsm' hps hnt2 hri hx9 h44 hlz hk
                    go_wp2_with fail
                    refine (HF2.out _).mono ?_
                    rintro e wz2 ⟨rfl, rfl⟩
                    go_wp2_with fail
                    refine (HSKt.out _).mono ?_
                    rintro e wz3 ⟨rfl, rfl⟩
                    go_wp2
                    go_roundw
                    case rel => exact ⟨q3, acc ++ [p], rfl, HMR.out, by omega, by rw [List.length_append]; simp only [List.length_cons, List.length_nil]; omega, HNT2.out, HSM2.out, n, by omega, HNX.out⟩
                    case measure => show (str q3).size < (str q).size; rw [str_size, str_size]; omega
end Go.Proofs.YtnghagikchffiaaDoor
