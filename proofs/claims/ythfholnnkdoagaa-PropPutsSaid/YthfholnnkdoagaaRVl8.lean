/-
  Layer 8: the answer's value. Own work.
-/
import Derived.Test.YthfholnnkdoagaaRTx8
namespace Go.Proofs.Ythfholnnkdoagaa
set_option linter.unusedVariables false
set_option linter.unusedSimpArgs false
open Go.RowKit

theorem own_shape8 {w : World} {base e size n : Nat} {v : Value} {xs : List Value} (h : w.ownsRow base e size v n xs) : ∃ a c, v = .slice a n c := by
  rcases h.2 with ⟨rfl, h0⟩ | ⟨g, cap, cur, rfl, _⟩
  · exact ⟨none, 0, by rw [h0]⟩
  · exact ⟨_, _, rfl⟩
/-- one text less at a row's end -/
theorem own_less {w : World} {base e n g cap : Nat} {xs ys : List Value} (h : w.ownsRow base e 1 (.slice (some ⟨g, 0, none⟩) (n + 1) cap) (n + 1) xs) (hx : xs.take n = ys) : w.ownsRow base e 1 (.slice (some ⟨g, 0, none⟩) n cap) n ys := by
  have hl := h.1
  rcases h.2 with ⟨hv, _⟩ | ⟨g2, cap2, cur, hv, hb, hg, hn, hc, hs, ht⟩
  · cases hv
  · cases hv
    refine ⟨by rw [← hx, List.length_take]; omega, .inr ⟨g, cap, cur, rfl, hb, hg, by omega, hc, hs, ?_⟩⟩
    have := congrArg (List.take (n * 1)) ht
    rw [List.take_take, Nat.min_eq_left (by omega)] at this
    rw [this, Nat.mul_one, hx]
/-- a property more behind a row of one's own, and where the row lies then -/
theorem app_propL {ops : Array Oper} {rest : List Oper} {o : Oper} {a : Act} {Q : Exit → Act → World → Prop} (hgd : o.guard = none) (s x : Operand)
    (ho : o.op = .call { callee := .builtin .append, args := #[s, x], argTypes := #[27, 27] }) (w2 : World) (p : Pr) {base n : Nat} {v : Value} {xs : List Value} (hsv : a.eval s = v) (hx : a.eval x = .slice (some ⟨w2.heap.size, 0, none⟩) 1 1)
    (hown : w2.ownsRow base 33 2 v n xs) (hn : n ≤ 100000) (hbase : base ≤ w2.heap.size)
    (hK : ∀ g cap w', w'.ownsRow base 33 2 (.slice (some ⟨g, 0, none⟩) (n + 1) cap) (n + 1) (xs ++ prL p) → w2.grownBy w' v.ownBlock → (v.ownBlock = some g ∨ w2.heap.size ≤ g) → wpList Try.prog ops Q rest (a.put o.dst (.slice (some ⟨g, 0, none⟩) (n + 1) cap)) w') :
    wpList Try.prog ops Q (o :: rest) a (w2.alloc (.cells #[.string p.n, .string p.v] 33)) := by
  obtain ⟨i, hi, hz, hsize, hby⟩ := info_parts prop_info
  refine wpList_append_lies _ hgd s x 27 ho base 33 i _ 2 32 Try.underlying27 hi hz hsize hby rfl (by omega) v n xs hsv (hown.alloc _) ⟨w2.heap.size, 0, none⟩ 1 1 (prL p) hx rfl ?_ ?_ (by omega) (by simp only [maxLen]; omega) (by omega) (by simp; omega) _ rfl ?_
  · intro j y hj
    rw [add_q, cell_of_row _ w2.heap.size j _ _ (0, 0) (heap_alloc_new w2 _)]
    simpa [prL] using hj
  · intro u hu
    simp only [prL, List.mem_cons, List.not_mem_nil, or_false] at hu
    rcases hu with rfl | rfl <;> rfl
  · intro g cap w' h2 h3 h4 h5
    refine hK g cap w' h2 ⟨h3.os, h3.tape, h3.output, Nat.le_trans (by simp) h3.size, fun k hk hne => (h3.block k (by simp; omega) hne).trans (Below.heap_alloc _ _ _ hk)⟩ ?_
    rcases h4 with h4 | h4
    · exact .inl h4
    · exact .inr (by rw [h4]; simp)
def RPx (B R : Nat) (L : List Pp) (vL : Value) (nm : List UInt8) (way : List (List UInt8)) (vd vo : Value) (sv : List UInt8) (x : Xp) (w w' : World) : Prop :=
  match x with
  | .ok v D' => sv = v ∧ ∃ vd' vo', RT8 B R L vL 0 nm way D' vd' vo' w' ∧ Mw R vd vo w w' vd' vo'
  | .bad er n D' => er ≠ 0 ∧ sv.length ≤ 200000 ∧ ∃ (ways : List (List UInt8)) (vd' vo' : Value), RT8 B R L vL er n ways D' vd' vo' w' ∧ Mw R vd vo w w' vd' vo'
theorem RP.ret {B R : Nat} {L : List Pp} {vL : Value} {nm : List UInt8} {way : List (List UInt8)} {vd vo : Value} {x : Xp} {w w' : World} {e : Ending} (h : RP B R L vL nm way vd vo x w e w') : ∃ sv, e = .returned (.string (str sv)) ∧ RPx B R L vL nm way vd vo sv x w w' := by
  cases x with
  | ok v D => obtain ⟨rfl, h⟩ := h; exact ⟨v, rfl, rfl, h⟩
  | bad er n D => obtain ⟨h1, sv, ways, a, b, rfl, h2, h3⟩ := h; exact ⟨sv, rfl, h1, h2, ways, a, b, h3⟩
theorem RPx.far {B R : Nat} {L : List Pp} {vL : Value} {nm : List UInt8} {way : List (List UInt8)} {vd vo : Value} {x : Xp} {w0 w w' : World} {sv : List UInt8} (h : RPx B R L vL nm way vd vo sv x w w') (hm : Mw R vd vo w0 w vd vo) : RPx B R L vL nm way vd vo sv x w0 w' := by
  cases x with
  | ok v D => obtain ⟨h1, a, b, h2, h3⟩ := h; exact ⟨h1, a, b, h2, hm.trans h3⟩
  | bad er n D => obtain ⟨h1, h2, ways, a, b, h3, h4⟩ := h; exact ⟨h1, h2, ways, a, b, h3, hm.trans h4⟩
set_option maxHeartbeats 8000000 in
set_option maxRecDepth 100000 in
theorem rvalue8_step (B R : Nat) (L : List Pp) (vL : Value) (hLl : L.length ≤ 1000) (hL : ∀ p ∈ L, p.2.length ≤ 1000) (k : Nat) (way : List (List UInt8)) (hl : way.length ≤ 32)
    (HV : ∀ n v0, getM L n = some v0 → way.length < 32 → RValC B R L vL k (way ++ [n])) : RValC B R L vL (k + 1) way := by
  intro D nm0 vd vo w n v0 hg hq ht
  generalize hRES : valueM8 L (k + 1) way n D = RES
  have HR := Lib.hid hRES
  have HT := Lib.hid ht
  have HQ := Lib.hid hq
  have HG := Lib.hid hg
  have HVV := Lib.hid HV
  have hD1 : D.length ≤ 1000 := Nat.le_trans hq.len hLl
  have HAT := Lib.hid (At_any (prs D) (str n) vd w (RdPs.of_own ht.done))
  have c1 : w.cell? ⟨R, 1, none⟩ = some vd := by rw [cell_of_row _ _ 1 _ _ (0, 0) ht.tab]; rfl
  clear hRES ht hq hg HV
  go_enter Try.func41, Try.ntmps41
  go_wp2_with fail
  refine HAT.out.mono ?_
  rintro e w3 ⟨rfl, hb3⟩
  have HT3 := Lib.hid (HT.out.far hb3)
  have HM3 := Lib.hid (show Mw R vd vo w w3 vd vo from Mw.of_below hb3)
  clear hb3 c1 HAT HT
  cases hgd : getM D n with
  | some v =>
    obtain ⟨i, hi, hDi⟩ := at_some hgd
    rw [hi]
    have hnw : n ∉ way := fun h => by have := HQ.out.notin n h; rw [hgd] at this; cases this
    have HF := Lib.hid (show RP B R L vL nm0 way vd vo RES w (.returned (.string (str v))) w3 from by
      rw [← HR.out, valueM8, if_neg hnw, hgd]
      exact ⟨rfl, vd, vo, HT3.out, HM3.out⟩)
    have hil : i < D.length := (List.getElem?_eq_some_iff.1 hDi).1
    obtain ⟨g, cap, hvd, _, _⟩ := HT3.out.done.form (by rw [prs_len]; omega)
    have hpl : (prs D).length = D.length := prs_len D
    rw [hpl] at hvd
    have hpos : (0 : Int) ≤ (i : Int) := by omega
    have hiI : (i : Int) < (D.length : Int) := by omega
    have c1 : w3.cell? ⟨R, 1, none⟩ = some (.slice (some ⟨g, 0, none⟩) D.length cap) := by rw [cell_of_row _ _ 1 _ _ (0, 0) HT3.out.tab, ← hvd]; rfl
    have hc := HT3.out.done.cells (g := g) (by rw [hvd]; rfl) (i * 2 + 1) (.string (str v)) (by rw [rowPr_at (prs D) i 1 ⟨str n, str v⟩ (prs_at hDi) (by omega)]; rfl)
    rw [add_q] at hc
    clear HT3 HM3 HR hi hDi hvd hpl hgd
    go_wp2
    go_ret
    exact HF.out
  | none =>
    rw [at_none hgd]
    have HGD := Lib.hid hgd
    clear hgd
    have hneg : ¬ (0 : Int) ≤ -1 := by omega
    generalize (-1 : Int) = neg at hneg ⊢
    obtain ⟨ao, co, hvo⟩ := own_shape8 HT3.out.opn
    subst hvo
    have hwl : (way.length : Int) ≤ 32 := by omega
    have c5 : w3.cell? ⟨R, 5, none⟩ = some (.slice ao way.length co) := by rw [cell_of_row _ _ 5 _ _ (0, 0) HT3.out.tab]; rfl
    go_upto_region 5 with fail
    go_loopw [30] (fun i wr => ∃ j : Nat, j ≤ way.length ∧ i = .int .i64 j ∧ wr = w3 ∧ ∀ x ∈ way.take j, x ≠ n) (fun i _ => way.length - (intOf i).toNat)
    case atStart => exact ⟨0, by omega, rfl, rfl, by simp⟩
    case round =>
      obtain ⟨j, hj, rfl, hwr, hno⟩ := hrel
      obtain rfl : w3 = wr := hwr.symm
      have HNO := Lib.hid hno
      clear hno
      by_cases hlt : j < way.length
      · obtain ⟨x, hx⟩ : ∃ x, way[j]? = some x := ⟨_, List.getElem?_eq_getElem hlt⟩
        obtain ⟨g, cap, hvf, _, _⟩ := HT3.out.opn.form (by omega)
        cases hvf
        have hc := HT3.out.opn.cells (g := g) rfl j (.string (str x)) (by unfold strVs; rw [List.getElem?_map, hx]; rfl)
        rw [add_q] at hc
        have hjI : (j : Int) < (way.length : Int) := by omega
        have HX := Lib.hid hx
        clear hx
        by_cases hxn : x = n
        · subst hxn
          have hmem : x ∈ way := List.mem_of_getElem? HX.out
          have HFL := Lib.hid (fail8_any HT3.out 22 x)
          have HBD := Lib.hid (show RES = .bad 22 x D from by rw [← HR.out, valueM8, if_pos hmem])
          clear hmem
          go_wp2_with fail
          refine HFL.out.mono ?_
          rintro e w9 ⟨rfl, h9, m9⟩
          have HF := Lib.hid (show RP B R L vL nm0 way vd (.slice (some ⟨g, 0, none⟩) way.length co) RES w (.returned (.string (str []))) w9 from by rw [HBD.out]; exact ⟨by decide, [], way, vd, _, rfl, by simp, h9, HM3.out.trans m9⟩)
          clear h9 m9 HFL
          go_wp2
          go_ret
          exact HF.out
        · have hL : ((str x).toList == (str n).toList) = false := by
            rw [beq_eq_false_iff_ne]
            intro e
            exact hxn (by have := bytes_eq10 e; simpa [str] using congrArg (fun b : ByteArray => b.data.toList) this)
          have HN2 := Lib.hid (show ∀ y ∈ way.take (j + 1), y ≠ n from fun y hy => by
            rw [List.take_add_one, HX.out, List.mem_append] at hy
            rcases hy with hy | hy
            · exact HNO.out y hy
            · simp at hy; rw [hy]; exact hxn)
          clear hxn
          go_wp2
          go_roundw
          case rel => exact ⟨j + 1, by omega, by go_num, (by first | trivial | rfl), HN2.out⟩
          case measure => simp [intOf]; omega
      · have hle : (way.length : Int) ≤ j := by omega
        have hnw : n ∉ way := fun h => HNO.out n (by rw [List.take_of_length_le (by omega)]; exact h) rfl
        by_cases h32 : 32 ≤ way.length
        · have h32I : (32 : Int) ≤ (way.length : Int) := by omega
          have HFL := Lib.hid (fail8_any HT3.out 2 n)
          have HBD := Lib.hid (show RES = .bad 2 n D from by rw [← HR.out, valueM8, if_neg hnw, HGD.out]; dsimp only; rw [if_pos h32])
          clear hnw
          go_wp2_with fail
          refine HFL.out.mono ?_
          rintro e w9 ⟨rfl, h9, m9⟩
          have HF := Lib.hid (show RP B R L vL nm0 way vd (.slice ao way.length co) RES w (.returned (.string (str []))) w9 from by rw [HBD.out]; exact ⟨by decide, [], way, vd, _, rfl, by simp, h9, HM3.out.trans m9⟩)
          clear h9 m9 HFL
          go_wp2
          go_ret
          exact HF.out
        · have h32I : ¬ (32 : Int) ≤ (way.length : Int) := by omega
          have HRR := Lib.hid (show RES = (textM8 (fun m D' => valueM8 L k (way ++ [n]) m D') (fun m => (getM L m).isSome) n (v0.length + 1) [] v0 D).bind fun v D' => .ok v (D' ++ [(n, v)]) from by
            rw [← HR.out, valueM8, if_neg hnw, HGD.out]
            dsimp only
            rw [if_neg h32, HG.out]
            rfl)
          have HRow := Lib.hid HT3.out.opn
          have HBs := Lib.hid (show B ≤ w3.heap.size from by have h1 := HT3.out.low; have h2 := HT3.out.lts.1; omega)
          have HNW := Lib.hid hnw
          clear hnw hle
          go_upto_region 14 with fail
          go_wp2_with (at_builtin
                       refine app_one rfl (.tmp 54) (.tmp 56) rfl w3 (str n) rfl rfl HRow.out (by omega) HBs.out ?_)
          intro g6 q6 w6 ho6 hg6 hl6
          have hn6 : w6.heap[R]? = _ := (hg6.block R HT3.out.lts.1 (fun e => HT3.out.ne HT3.out.opn (by decide) e.symm rfl)).trans HT3.out.tab
          have f5 : w6.frozen? ⟨R, 5, none⟩ = false := frozen_of_row w6 R 5 _ _ hn6
          have c5' : w6.cell? ⟨R, 5, none⟩ = some (.slice ao way.length co) := by rw [cell_of_row w6 R 5 _ _ (0, 0) hn6]; rfl
          obtain ⟨q1, q2⟩ := HT3.out.opens (w5 := w6) (vo5 := .slice (some ⟨g6, 0, none⟩) (way.length + 1) q6) (ways5 := way ++ [n]) (by rw [List.length_append, List.length_singleton]; unfold strVs at ho6 ⊢; rw [List.map_append]; exact ho6) hg6 (by
            rcases hl6 with h | h
            · exact .inl h.symm
            · refine .inr fun k hk => ?_
              have : g6 = k := by simpa [Value.ownBlock] using hk
              omega)
          have HT7 := Lib.hid q1
          have HM7 := Lib.hid (HM3.out.trans q2)
          clear hn6 ho6 hg6 hl6 q1 q2 c5 HT3 HM3 HRow HBs
          go_upto_region 15 with fail
          generalize w6.setCell ⟨R, 5, none⟩ (.slice (some ⟨g6, 0, none⟩) (way.length + 1) q6) = w7 at HT7 HM7 ⊢
          clear f5 c5'
          obtain ⟨iv, hiv, hLi⟩ := at_some HG.out
          obtain ⟨gL, capL, hvL, _, _⟩ := HT7.out.l.form (by rw [prs_len]; have := (List.getElem?_eq_some_iff.1 hLi).1; omega)
          have hpl : (prs L).length = L.length := prs_len L
          rw [hpl] at hvL
          subst hvL
          have hivl : iv < L.length := (List.getElem?_eq_some_iff.1 hLi).1
          have hivI : (iv : Int) < (L.length : Int) := by omega
          have HLI := Lib.hid hLi
          have HIV := Lib.hid hiv
          have c0 : w7.cell? ⟨R, 0, none⟩ = some (.slice (some ⟨gL, 0, none⟩) L.length capL) := by rw [cell_of_row _ _ 0 _ _ (0, 0) HT7.out.tab]; rfl
          have HAT := Lib.hid (fun w' (hb : Below w7.heap.size w7 w') => At_any (prs L) (str n) (.slice (some ⟨gL, 0, none⟩) L.length capL) w' (RdPs.of_own (HT7.out.far hb).l))
          have HTX := Lib.hid (fun w' (h : RT8 B R L (.slice (some ⟨gL, 0, none⟩) L.length capL) 0 nm0 (way ++ [n]) D vd (.slice (some ⟨g6, 0, none⟩) (way.length + 1) q6) w') => (rtext8_any B R L _ k (way ++ [n]) (HVV.out n v0 HG.out (by omega)) D nm0 vd _ w' v0 n (by have := hL _ (List.mem_of_getElem? HLI.out); dsimp only at this; omega) (HQ.out.start HGD.out) h).mono fun e w2 hq => RP.ret (w := w') hq)
          clear hiv hLi hpl hivl
          go_region_law (first
            | (go_simp; go_at_call 17; refine (HAT.out _ (by repeat (first | exact Below.refl _ _ | refine Below.drew ?_))).mono ?_; rintro e w8 ⟨rfl, hb8⟩; rw [HIV.out]; have HB8 := Lib.hid hb8; have HT8 := Lib.hid ((HT7.out.far (Below.refl _ _).drew).far hb8); have c08 : w8.cell? ⟨R, 0, none⟩ = some (.slice (some ⟨gL, 0, none⟩) L.length capL) := (by rw [cell_of_row _ _ 0 _ _ (0, 0) HT8.out.tab]; rfl); have hc8 : w8.cell? ⟨gL, iv * 2 + 1, none⟩ = some (.string (str v0)) := (by have h1 := HT8.out.l.cells (g := gL) rfl (iv * 2 + 1) (.string (str v0)) (by rw [rowPr_at (prs L) iv 1 ⟨str n, str v0⟩ (prs_at HLI.out) (by omega)]; rfl); rw [add_q] at h1; exact h1); clear hb8)
            | (go_simp; go_at_call 37; refine (HTX.out _ (HT8.out.far (by repeat (first | exact Below.refl _ _ | refine Below.drew ?_)))).mono ?_; rintro e w9 ⟨sv, rfl, hrp⟩; have HRP := Lib.hid hrp; clear hrp))
          all_goals
            have HM8 := Lib.hid (show Mw R vd (.slice ao way.length co) w w8 vd (.slice (some ⟨g6, 0, none⟩) (way.length + 1) q6) from HM7.out.trans (Mw.of_below ((Below.refl _ _).drew.trans HB8.out)))
            have HQ9 := Lib.hid (text_q L (k := k) (owner := n) (out := []) (s := v0) (v0.length + 1) (HQ.out.start HGD.out))
            have HVS := Lib.hid (fun (v : List UInt8) (D2 : List Pp) => @text_len (fun m D' => valueM8 L k (way ++ [n]) m D') (fun m => (getM L m).isSome) n (v0.length + 1) [] v0 v D D2)
            generalize textM8 (fun m D' => valueM8 L k (way ++ [n]) m D') (fun m => (getM L m).isSome) n (v0.length + 1) [] v0 D = xv at HRP HRR HQ9 HVS
            clear HTX HAT hc8 c08 c0
            cases xv with
            | bad er mm D3 =>
              obtain ⟨hz, hsv, ways, vd9, vo9, h9, m9⟩ := HRP.out
              have c2 : w9.cell? ⟨R, 2, none⟩ = some (.int .i64 er) := by rw [cell_of_row _ _ 2 _ _ (0, 0) h9.tab]; rfl
              have hz2 : (er == 0) = false := by rw [beq_eq_false_iff_ne]; exact hz
              have HF := Lib.hid (show RP B R L (.slice (some ⟨gL, 0, none⟩) L.length capL) nm0 way vd (.slice ao way.length co) RES w (.returned (.string (str sv))) w9 from by rw [HRR.out]; exact ⟨hz, sv, ways, vd9, vo9, rfl, hsv, h9, HM8.out.trans m9⟩)
              clear HRP h9 m9 hz
              go_wp2
              go_ret
              exact HF.out
            | ok v D3 =>
              obtain ⟨hsv, vd9, vo9, h9, m9⟩ := HRP.out
              subst hsv
              have HRR := Lib.hid (show RES = .ok sv (D3 ++ [(n, sv)]) from HRR.out)
              have HQ9 := Lib.hid (show Q8 L (way ++ [n]) D3 from HQ9.out)
              have hD3 : D3.length ≤ 1000 := Nat.le_trans HQ9.out.len hLl
              obtain ⟨g9, c9, hvo9, _, _⟩ := h9.opn.form (by rw [List.length_append, List.length_singleton]; omega)
              have hwl1 : (way ++ [n]).length = way.length + 1 := by rw [List.length_append, List.length_singleton]
              rw [hwl1] at hvo9
              subst hvo9
              have c2 : w9.cell? ⟨R, 2, none⟩ = some (.int .i64 0) := by rw [cell_of_row _ _ 2 _ _ (0, 0) h9.tab]; rfl
              have c5 : w9.cell? ⟨R, 5, none⟩ = some (.slice (some ⟨g9, 0, none⟩) (way.length + 1) c9) := by rw [cell_of_row _ _ 5 _ _ (0, 0) h9.tab]; rfl
              have f5 := frozen_of_row w9 R 5 _ _ h9.tab
              have hrow9 := h9.opn
              rw [hwl1] at hrow9
              have hless := own_less hrow9 (ys := strVs way) (by unfold strVs; rw [List.map_append, List.take_left' (by simp)])
              obtain ⟨q1, q2⟩ := h9.opens (w5 := w9) (vo5 := .slice (some ⟨g9, 0, none⟩) way.length c9) (ways5 := way) hless (World.grownBy.refl _ _) (.inl rfl)
              have HT10 := Lib.hid q1
              have HM10 := Lib.hid (HM8.out.trans (m9.trans q2))
              have hwr : IntKind.i64.wrap (((way.length + 1 : Nat) : Int) - 1) = (way.length : Int) := by rw [IntWalk.i64_in _ (by omega)]; omega
              have hwr2 : IntKind.i64.wrap ((way.length : Int) + 1 - 1) = (way.length : Int) := by rw [IntWalk.i64_in _ (by omega)]; omega
              have hc9 : way.length + 1 ≤ c9 := by
                rcases hrow9.2 with ⟨hx, _⟩ | ⟨g, cap, cur, hx, _, _, h1, _⟩
                · cases hx
                · cases hx; exact h1
              clear HRP h9 m9 hrow9 hless q1 q2 hwl1
              have hc9I : (way.length : Int) ≤ (c9 : Int) := by omega
              go_upto_region 17 with fail
              go_region
              all_goals
                go_upto_region 18 with fail
                generalize w9.setCell ⟨R, 5, none⟩ (.slice (some ⟨g9, 0, none⟩) way.length c9) = w10 at HT10 HM10 ⊢
                have HT11 := Lib.hid (HT10.out.far (Below.refl _ _).drew)
                have HM11 := Lib.hid (HM10.out.trans (Mw.of_below (Below.refl _ _).drew))
                generalize w10.drew = w11 at HT11 HM11 ⊢
                clear c2 c5 f5 hwr hwr2 hc9 hc9I HT10 HM10
                have hdone := HT11.out.done
                rw [prs_len] at hdone
                obtain ⟨ad, cd, hvd9⟩ := own_shape8 hdone
                subst hvd9
                have HDN := Lib.hid hdone
                have HBs := Lib.hid (show B ≤ w11.heap.size from by have h1 := HT11.out.low; have h2 := HT11.out.lts.1; omega)
                have c1 : w11.cell? ⟨R, 1, none⟩ = some (.slice ad D3.length cd) := by rw [cell_of_row _ _ 1 _ _ (0, 0) HT11.out.tab]; rfl
                clear hdone
                go_wp2_with (at_builtin
                             refine app_propL rfl (.tmp 99) (.tmp 103) rfl w11 ⟨str n, str sv⟩ rfl rfl HDN.out (by omega) HBs.out ?_)
                intro g12 q12 w12 ho12 hg12 hl12
                have hn12 : w12.heap[R]? = _ := (hg12.block R HT11.out.lts.1 (fun e => HT11.out.ne HT11.out.done (by decide) e.symm rfl)).trans HT11.out.tab
                have f1 : w12.frozen? ⟨R, 1, none⟩ = false := frozen_of_row w12 R 1 _ _ hn12
                have c1' : w12.cell? ⟨R, 1, none⟩ = some (.slice ad D3.length cd) := by rw [cell_of_row w12 R 1 _ _ (0, 0) hn12]; rfl
                have hpx : rowPr (prs [(n, sv)]) = prL ⟨str n, str sv⟩ := by simp [rowPr, prs]
                obtain ⟨q1, q2⟩ := HT11.out.dones (w5 := w12) (vd5 := .slice (some ⟨g12, 0, none⟩) (D3.length + 1) q12) (D5 := D3 ++ [(n, sv)]) (by rw [prs_len, List.length_append, List.length_singleton, prs_app, rowPr_app, hpx]; exact ho12) hg12 (by
                  rcases hl12 with h | h
                  · exact .inl h.symm
                  · refine .inr fun k hk => ?_
                    have : g12 = k := by simpa [Value.ownBlock] using hk
                    omega)
                have HF := Lib.hid (show RP B R L (.slice (some ⟨gL, 0, none⟩) L.length capL) nm0 way vd (.slice ao way.length co) RES w (.returned (.string (str sv))) (w12.setCell ⟨R, 1, none⟩ (.slice (some ⟨g12, 0, none⟩) (D3.length + 1) q12)) from by rw [HRR.out]; exact ⟨rfl, _, _, q1, HM11.out.trans q2⟩)
                clear hn12 ho12 hg12 hl12 q1 q2 c1 HT11 HM11
                go_wp2_with fail
                go_ret
                exact HF.out
/-- value, whatever is met -/
theorem rvalue8_any (B R : Nat) (L : List Pp) (vL : Value) (hLl : L.length ≤ 1000) (hL : ∀ p ∈ L, p.2.length ≤ 1000) : ∀ (k : Nat) (way : List (List UInt8)), way.length + k = 33 → 1 ≤ k → RValC B R L vL k way
  | 0, _, _, h => by omega
  | k + 1, way, hl, _ => rvalue8_step B R L vL hLl hL k way (by omega) fun n v0 _ h32 => rvalue8_any B R L vL hLl hL k (way ++ [n]) (by rw [List.length_append, List.length_singleton]; omega) (by omega)
theorem rtext8_top (B R : Nat) (L : List Pp) (vL : Value) (hLl : L.length ≤ 1000) (hL : ∀ p ∈ L, p.2.length ≤ 1000) (D : List Pp) (nm0 : List UInt8) (vd vo : Value) (w : World) (s : List UInt8) (hs : s.length ≤ 100000) (hq : Q8 L [] D) (ht : RT8 B R L vL 0 nm0 [] D vd vo w) :
    Calls Try.prog 37 #[.pointer (some ⟨R, 0, none⟩), .string (str s), .string (str [])] w (RP B R L vL nm0 [] vd vo (expandM8 L s D) w) :=
  rtext8_any B R L vL 33 [] (rvalue8_any B R L vL hLl hL 33 [] rfl (by omega)) D nm0 vd vo w s [] hs hq ht
end Go.Proofs.Ythfholnnkdoagaa
