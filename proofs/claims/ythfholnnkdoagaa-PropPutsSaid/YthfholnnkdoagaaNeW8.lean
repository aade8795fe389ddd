/-
  Layer 8: the walk of New. Own work.
-/
import Derived.Test.YthfholnnkdoagaaNew8
namespace Go.Proofs.Ythfholnnkdoagaa
set_option linter.unusedVariables false
set_option linter.unusedSimpArgs false
open Go.RowKit

theorem NewI.start (w : World) (m : Int) (hm : w.cell? ⟨0, 0, none⟩ = some (.int .i64 m)) :
    NewI ⟨w.heap.size, w.heap.size + 2, w.heap.size, w.heap.size + 1, .slice none 0 0, m⟩ (firsts [] ([] : List Pp)) w
      (((w.alloc (Obj.map #[] 0)).alloc (Obj.map #[] 0)).alloc (Obj.cells #[.slice none 0 0, .map (some w.heap.size), .map (some (w.heap.size + 1)), .slice none 0 0, .int .i64 0] 75)) := by
  have hs1 : (w.alloc (Obj.map #[] 0)).heap.size = w.heap.size + 1 := by simp
  have hs2 : ((w.alloc (Obj.map #[] 0)).alloc (Obj.map #[] 0)).heap.size = w.heap.size + 2 := by simp
  have b1 : Below w.heap.size w (w.alloc (Obj.map #[] 0)) := (Below.refl _ _).alloc (Nat.le_refl _) _
  have b2 : Below (w.heap.size + 1) (w.alloc (Obj.map #[] 0)) ((w.alloc (Obj.map #[] 0)).alloc (Obj.map #[] 0)) := by rw [← hs1]; exact (Below.refl _ _).alloc (Nat.le_refl _) _
  have b3 : Below (w.heap.size + 2) ((w.alloc (Obj.map #[] 0)).alloc (Obj.map #[] 0)) (((w.alloc (Obj.map #[] 0)).alloc (Obj.map #[] 0)).alloc (Obj.cells #[.slice none 0 0, .map (some w.heap.size), .map (some (w.heap.size + 1)), .slice none 0 0, .int .i64 0] 75)) := by rw [← hs2]; exact (Below.refl _ _).alloc (Nat.le_refl _) _
  have bb := b1.trans ((b2.mono (by omega)).trans (b3.mono (by omega)))
  have hnew := heap_alloc_new ((w.alloc (Obj.map #[] 0)).alloc (Obj.map #[] 0)) (Obj.cells #[.slice none 0 0, .map (some w.heap.size), .map (some (w.heap.size + 1)), .slice none 0 0, .int .i64 0] 75)
  rw [hs2] at hnew
  have hlt := World.block_lt_of_cell? w _ hm
  refine ⟨⟨hnew, World.ownsRow_nil _ _ _ _, ?_, ?_, World.ownsRow_nil _ _ _ _, by show w.heap.size ≠ w.heap.size + 1; omega, ⟨by show w.heap.size ≤ w.heap.size + 2; omega, Nat.le_refl _, by show w.heap.size ≤ w.heap.size + 1; omega⟩, (bb.cell hlt).trans hm, hlt⟩, rfl, bb⟩
  · have h1 := (Places.made w).below (b2.mono (by rw [hs1]; omega))
    exact (h1.below (b3.mono (by rw [hs2]; omega))).same fun t => rfl
  · have h1 := PlacesI.made (w.alloc (Obj.map #[] 0))
    rw [hs1] at h1
    exact (h1.below (b3.mono (by rw [hs2]; omega))).same fun t => by unfold doneF; rfl
theorem NewI.below {S : Tb} {U : List Pp} {w0 w w' : World} (h : NewI S U w0 w) (hb : Below w.heap.size w w') : NewI S U w0 w' :=
  ⟨h.st.below hb, h.base, h.b.trans (hb.mono (by have := h.b.size; have := h.base; omega))⟩
theorem firsts_snoc : ∀ (L U : List Pp) (p : Pp), firsts U (L ++ [p]) = if (getM (firsts U L) p.1).isSome then firsts U L else firsts U L ++ [p]
  | [], U, p => by
    show firsts U [p] = _
    rw [firsts, firsts, firsts]
  | q :: L, U, p => by
    rw [List.cons_append, firsts, firsts, firsts_snoc L]
theorem firsts_take {L : List Pp} {k : Nat} {x : Pp} (hx : L[k]? = some x) (h : (getM (firsts [] (L.take k)) x.1).isSome = true) : firsts [] (L.take (k + 1)) = firsts [] (L.take k) := by
  rw [List.take_add_one, hx]
  show firsts [] (L.take k ++ [x]) = _
  rw [firsts_snoc, if_pos h]
theorem firsts_take_new {L : List Pp} {k : Nat} {x : Pp} (hx : L[k]? = some x) (h : getM (firsts [] (L.take k)) x.1 = none) : firsts [] (L.take (k + 1)) = firsts [] (L.take k) ++ [x] := by
  rw [List.take_add_one, hx]
  show firsts [] (L.take k ++ [x]) = _
  rw [firsts_snoc, h]
  rfl
theorem tabp_kept {w w' : World} {T base n : Nat} {cs : Array Value} {v : Value} {xs : List Value} (h : w.heap[T]? = some (Obj.cells cs 75 (0, 0))) (ho : w.ownsRow base 33 2 v n xs) (hg : w.grownBy w' v.ownBlock) : w'.heap[T]? = some (Obj.cells cs 75 (0, 0)) :=
  (hg.block T (Array.getElem?_eq_some_iff.1 h).1 (fun he => by
    obtain ⟨c2, h1, _⟩ := own_ty ho he.symm
    rw [h] at h1; cases h1)).trans h
/-- one property more, a step of a region that draws -/
theorem step_prop {ops : Array Oper} {E : Prop} {o : Oper} {a : Act} {w w2 : World} {K : Act → World → Prop} {Q : Exit → Act → World → Prop} (s x : Operand) (hgd : o.guard = none)
    (ho : o.op = .call { callee := .builtin .append, args := #[s, x], argTypes := #[27, 27] }) {base n : Nat} {v : Value} {xs : List Value} (p : Pr) (q : Nat) (hsv : a.eval s = v) (hx : a.eval x = .slice (some ⟨q, 0, none⟩) 1 1)
    (hb : Below w2.heap.size w2 w) (hown : w2.ownsRow base 33 2 v n xs) (hq : w.heap[q]? = some (.cells #[.string p.n, .string p.v] 33 (0, 0))) (hn : n ≤ 100000) (hbase : base ≤ w2.heap.size)
    (hK : ∀ g cap w', w'.ownsRow base 33 2 (.slice (some ⟨g, 0, none⟩) (n + 1) cap) (n + 1) (xs ++ prL p) → w2.grownBy w' v.ownBlock → K (a.put o.dst (.slice (some ⟨g, 0, none⟩) (n + 1) cap)) w') :
    if Region.wanted o (yielded ops a.tmps) = true then Oper.wp Try.prog o a w K Q else E := by
  obtain ⟨i, hi, hz, hsize, hby⟩ := info_parts prop_info
  refine step_append_lies _ hgd s x 27 ho base 33 i _ 2 32 Try.underlying27 hi hz hsize hby rfl (by omega) v n xs hsv (own_mvd8 hown hb) ⟨q, 0, none⟩ 1 1 (prL p) hx rfl ?_ ?_ (by omega) (by simp only [maxLen]; omega) (by omega) (Nat.le_trans hbase hb.size) w.heap.size rfl ?_
  · intro j y hj
    rw [show (⟨q, 0, none⟩ : Addr).add j = ⟨q, j, none⟩ by unfold Addr.add; split <;> simp_all, cell_of_row _ q j _ _ (0, 0) hq]
    simpa [prL] using hj
  · intro u hu
    simp only [prL, List.mem_cons, List.not_mem_nil, or_false] at hu
    rcases hu with rfl | rfl <;> rfl
  · intro g cap w' h2 h3 h4 h5
    exact hK g cap w' h2 ⟨h3.os.trans hb.os, h3.tape.trans hb.tape, h3.output.trans hb.output, Nat.le_trans hb.size h3.size, fun k hk hne => (h3.block k (Nat.lt_of_lt_of_le hk hb.size) hne).trans (hb.block k hk)⟩
/-- a new table of these -/
def NewP (L : List Pp) (m : Int) (w : World) (e : Ending) (w' : World) : Prop :=
  ∃ S : Tb, e = .returned (.pointer (some ⟨S.T, 0, none⟩)) ∧ StV S (firsts [] L) [] (.slice none 0 0) w' ∧ S.B = w.heap.size ∧ Below w.heap.size w w' ∧ S.m = m
theorem app_prop {ops : Array Oper} {rest : List Oper} {o : Oper} {a : Act} {Q : Exit → Act → World → Prop} (hgd : o.guard = none) (s x : Operand)
    (ho : o.op = .call { callee := .builtin .append, args := #[s, x], argTypes := #[27, 27] }) (w2 : World) (p : Pr) {base n : Nat} {v : Value} {xs : List Value} (hsv : a.eval s = v) (hx : a.eval x = .slice (some ⟨w2.heap.size, 0, none⟩) 1 1)
    (hown : w2.ownsRow base 33 2 v n xs) (hn : n ≤ 100000) (hbase : base ≤ w2.heap.size)
    (hK : ∀ g cap w', w'.ownsRow base 33 2 (.slice (some ⟨g, 0, none⟩) (n + 1) cap) (n + 1) (xs ++ prL p) → w2.grownBy w' v.ownBlock → wpList Try.prog ops Q rest (a.put o.dst (.slice (some ⟨g, 0, none⟩) (n + 1) cap)) w') :
    wpList Try.prog ops Q (o :: rest) a (w2.alloc (.cells #[.string p.n, .string p.v] 33)) := by
  refine appP p hgd s x ho base n v xs hsv hown hx hn hbase ?_
  intro v' w' h1 h2 h3
  obtain ⟨g, cap, rfl, _, _⟩ := h1.form (by omega)
  exact hK g cap w' h1 h2
set_option maxHeartbeats 4000000 in
set_option maxRecDepth 100000 in
theorem New8_any (L : List Pp) (va : Value) (m : Int) (w : World) (ha : RdPs w va (prs L)) (hl : L.length ≤ 1000) (hok : ∀ p ∈ L, p.1.length ≤ 1000) (hm : w.cell? ⟨0, 0, none⟩ = some (.int .i64 m)) :
    Calls Try.prog 22 #[va] w (NewP L m w) := by
  obtain ⟨aa, ac, rfl⟩ := RdSl.shape ha
  have hlp : (prs L).length = L.length := prs_len L
  rw [hlp] at *
  have HA := Lib.hid ha
  have HM := Lib.hid hm
  have HOK := Lib.hid hok
  clear ha hm hok
  have hmm1 : ∀ w : World, (Instr.makeMap 63 none).run Try.prog w = .ok (.map (some w.heap.size)) (w.alloc (.map #[] 0)) := fun w => rfl
  have hmm2 : ∀ w : World, (Instr.makeMap 68 none).run Try.prog w = .ok (.map (some w.heap.size)) (w.alloc (.map #[] 0)) := fun w => rfl
  go_enter Try.func22, Try.ntmps22
  go_upto_region 2 with fail
  have HI := Lib.hid (NewI.start w m HM.out)
  have HSZ := Lib.hid (show w.heap.size + 1 + 1 = w.heap.size + 2 from rfl)
  rw [HSZ.out]
  generalize ((w.alloc (Obj.map #[] 0)).alloc (Obj.map #[] 0)).alloc (Obj.cells #[.slice none 0 0, .map (some w.heap.size), .map (some (w.heap.size + 1)), .slice none 0 0, .int .i64 0] 75) = w1 at HI ⊢
  generalize hT : w.heap.size + 2 = T at HI ⊢
  generalize hN : w.heap.size = N at HI ⊢
  generalize hDn : N + 1 = Dn at HI ⊢
  have HT := Lib.hid hT
  have HN := Lib.hid hN
  have HD := Lib.hid hDn
  clear hT hN hDn hmm1 hmm2 HSZ
  go_wp2_with fail
  go_loopw [14] (fun i wr => ∃ k : Nat, k ≤ L.length ∧ i = .int .i64 k ∧ ∃ vp, NewI ⟨N, T, N, Dn, vp, m⟩ (firsts [] (L.take k)) w wr) (fun i _ => L.length - (intOf i).toNat)
  case atStart => exact ⟨0, by omega, rfl, _, HI.out⟩
  case round =>
    obtain ⟨k, hk, rfl, vp, hi⟩ := hrel
    have HI2 := Lib.hid hi
    clear hi HI
    by_cases hlt : k < L.length
    · obtain ⟨x, hx⟩ : ∃ x, L[k]? = some x := ⟨_, List.getElem?_eq_getElem hlt⟩
      have hbw : Below w.heap.size w wr := by have := HI2.out.b; rw [HI2.out.base] at this; exact this
      obtain ⟨a1, e1, p0, p1⟩ := RdSl.elem (HA.out.below hbw (Nat.le_refl _)) (prs_at hx)
      subst e1
      dsimp only at p0 p1
      have HX := Lib.hid hx
      have hkI : (k : Int) < (L.length : Int) := by omega
      have hxl := HOK.out x (List.mem_of_getElem? hx)
      have hbb : Below wr.heap.size wr (wr.alloc (.cells #[.string (str x.1), .string (str x.2)] 33)) := (Below.refl _ _).alloc (Nat.le_refl _) _
      have hnew := heap_alloc_new wr (.cells #[.string (str x.1), .string (str x.2)] 33)
      have HI3 := Lib.hid (HI2.out.below hbb)
      clear hbw hbb hx HI2
      go_upto_region 5 with fail
      generalize wr.alloc (.cells #[.string (str x.1), .string (str x.2)] 33) = w2 at hnew HI3 ⊢
      generalize wr.heap.size = P0 at hnew ⊢
      have r0 : w2.cell? ⟨P0, 0, none⟩ = some (.string (str x.1)) := by rw [cell_of_row w2 P0 0 _ _ (0, 0) hnew]; rfl
      have t1 : w2.cell? ⟨T, 1, none⟩ = some (.map (some N)) := by rw [cell_of_row _ _ 1 _ _ (0, 0) HI3.out.st.tab]; rfl
      have hbd := (Below.refl w2.heap.size w2).drew
      have HI4 := Lib.hid (HI3.out.below hbd)
      have hlk := HI4.out.st.number.look (t := str x.1) (by rw [size_str]; unfold maxLen; omega)
      dsimp only at hlk
      have HNW := Lib.hid ((hbd.block P0 (Array.getElem?_eq_some_iff.1 hnew).1).trans hnew)
      have hUk : (firsts [] (L.take k)).length ≤ 1000 := Nat.le_trans (len_firsts _ _) (by simp; omega)
      clear p0 p1 hnew hbd
      cases hg : getM (firsts [] (L.take k)) x.1 with
      | some v =>
        obtain ⟨q, hq, _⟩ := num_some hg
        rw [hq] at hlk
        simp only [Option.getD_some, Option.isSome_some] at hlk
        have HF := Lib.hid (firsts_take HX.out (by rw [hg]; rfl))
        clear hg hq
        go_region
        all_goals
          go_wp2
          go_roundw
          case rel => exact ⟨k + 1, by omega, by go_num, vp, by rw [HF.out]; exact HI4.out⟩
          case measure => simp [intOf]; omega
      | none =>
        rw [num_none hg] at hlk
        simp only [Option.getD_none, Option.isSome_none] at hlk
        have HF := Lib.hid (firsts_take_new HX.out hg)
        have HG := Lib.hid hg
        clear hg
        go_region
        all_goals
          generalize w2.drew = w3 at HI4 HNW ⊢
          clear hlk t1 r0
          obtain ⟨va, vc, hvp⟩ := RdSl.shape (RdPs.of_own HI4.out.st.props)
          dsimp only at hvp
          subst hvp
          rw [prs_len] at HI4
          generalize hlen : (firsts [] (L.take k)).length = n at HI4 hUk
          have HLEN := Lib.hid hlen
          have t0 : w3.cell? ⟨T, 0, none⟩ = some (.slice va n vc) := by rw [cell_of_row _ _ 0 _ _ (0, 0) HI4.out.st.tab]; rfl
          have t1 : w3.cell? ⟨T, 1, none⟩ = some (.map (some N)) := by rw [cell_of_row _ _ 1 _ _ (0, 0) HI4.out.st.tab]; rfl
          have r0 : w3.cell? ⟨P0, 0, none⟩ = some (.string (str x.1)) := by rw [cell_of_row w3 P0 0 _ _ (0, 0) HNW.out]; rfl
          have hbd := (Below.refl w3.heap.size w3).drew
          obtain ⟨w5, hrun, hpl5, hg5d⟩ := (HI4.out.below hbd).st.number.update (t := str x.1) (m := n) (by rw [size_str]; unfold maxLen; omega) (by omega) (by omega)
          dsimp only at hrun hg5d hpl5
          have HPL5 := Lib.hid hpl5
          have HG5 := Lib.hid (show w3.grownBy w5 (some N) from ⟨hg5d.os.trans hbd.os, hg5d.tape.trans hbd.tape, hg5d.output.trans hbd.output, Nat.le_trans hbd.size hg5d.size, fun k hk hne => (hg5d.block k (Nat.lt_of_lt_of_le hk hbd.size) hne).trans (hbd.block k hk)⟩)
          clear hpl5 hg5d hbd hlen
          go_upto_region 7 with fail
          go_region
          all_goals
            go_upto_region 8 with fail
            clear hrun t0 t1 r0
            have hN5 : some N ≠ some T := fun e => by
              obtain ⟨es, c, h1⟩ := HI4.out.st.number.mapped
              have h2 := HI4.out.st.tab
              simp only [Option.some.injEq] at e
              dsimp only at h1 h2
              rw [e, h2] at h1; cases h1
            have hT5 := (HG5.out.block T (Array.getElem?_eq_some_iff.1 HI4.out.st.tab).1 (fun e => hN5 e.symm)).trans HI4.out.st.tab
            have hP5 := (HG5.out.block P0 (Array.getElem?_eq_some_iff.1 HNW.out).1 (fun e => by
              obtain ⟨es, c, h1⟩ := HI4.out.st.number.mapped
              have h2 := HNW.out
              simp only [Option.some.injEq] at e
              dsimp only at h1
              rw [e, h1] at h2; cases h2)).trans HNW.out
            have t0 : w5.cell? ⟨T, 0, none⟩ = some (.slice va n vc) := by rw [cell_of_row _ _ 0 _ _ (0, 0) hT5]; rfl
            have r0 : w5.cell? ⟨P0, 0, none⟩ = some (.string (str x.1)) := by rw [cell_of_row _ P0 0 _ _ (0, 0) hP5]; rfl
            have r1 : w5.cell? ⟨P0, 1, none⟩ = some (.string (str x.2)) := by rw [cell_of_row _ P0 1 _ _ (0, 0) hP5]; rfl
            have HT5 := Lib.hid hT5
            have HRow := Lib.hid (HI4.out.st.props.kept HG5.out (.inr fun e => by
              obtain ⟨cs, h1, _⟩ := own_ty HI4.out.st.props e
              obtain ⟨es, c, h2⟩ := HI4.out.st.number.mapped
              dsimp only at h2
              rw [h2] at h1; cases h1))
            have HB5 := Lib.hid (show N ≤ w5.heap.size from by
              have h1 := HI4.out.st.low.1
              have h2 := (Array.getElem?_eq_some_iff.1 HT5.out).1
              dsimp only at h1
              omega)
            have HPL := Lib.hid (show (prs (firsts [] (L.take k))).length = n from by rw [prs_len]; exact HLEN.out)
            have t0a : (w5.alloc (Obj.cells #[.string (str x.1), .string (str x.2)] 33)).cell? ⟨T, 0, none⟩ = some (.slice va n vc) := (Below.cell ((Below.refl w5.heap.size w5).alloc (Nat.le_refl _) _) (World.block_lt_of_cell? w5 _ t0)).trans t0
            clear hT5 hP5 hN5
            dsimp only at HRow
            rw [HPL.out] at HRow
            go_region_law (first
              | (refine step_prop (w2 := w5) (.tmp 45) (.tmp 47) rfl rfl ⟨str x.1, str x.2⟩ w5.heap.size (by simp [Act.eval, Act.put]) (by simp [Act.eval, Act.put]) (by repeat (first | exact Below.refl _ _ | refine Below.drew ?_ | refine Below.alloc ?_ (by simp) _)) HRow.out (heap_alloc_new _ _) (by omega) HB5.out ?_; intro g6 q6 w6 ho6 hg6; have HG6 := Lib.hid hg6; have HO6 := Lib.hid ho6; have hn6 := tabp_kept HT5.out HRow.out hg6; have f0 : w6.frozen? ⟨T, 0, none⟩ = false := frozen_of_row w6 T 0 _ _ hn6; have c0 : w6.cell? ⟨T, 0, none⟩ = some (.slice va n vc) := (by rw [cell_of_row w6 T 0 _ _ (0, 0) hn6]; rfl); clear hn6 ho6 hg6))
            all_goals
              have HFIN := Lib.hid (show NewI ⟨N, T, N, Dn, .slice (some ⟨g6, 0, none⟩) (n + 1) q6, m⟩ (firsts [] (L.take (k + 1))) w (w6.setCell ⟨T, 0, none⟩ (.slice (some ⟨g6, 0, none⟩) (n + 1) q6)) from by
                rw [HF.out]
                exact HI4.out.more HG.out (by have h := HPL5.out; rw [HLEN.out] at h ⊢; exact h) HG5.out (by rw [HPL.out]; exact HO6.out) HG6.out)
              generalize w6.setCell ⟨T, 0, none⟩ (.slice (some ⟨g6, 0, none⟩) (n + 1) q6) = w7 at HFIN ⊢
              clear f0 c0
              go_wp2
              go_roundw
              case rel => exact ⟨k + 1, by omega, by go_num, _, HFIN.out⟩
              case measure => simp [intOf]; omega
    · have hle : (L.length : Int) ≤ k := by omega
      have hkl : k = L.length := by omega
      subst hkl
      have HF := Lib.hid (show NewP L m w (.returned (.pointer (some ⟨T, 0, none⟩))) wr from by
        have h := HI2.out
        rw [List.take_length] at h
        have h1 := h.b
        have h2 := h.base
        rw [h2] at h1
        refine ⟨⟨N, T, N, Dn, vp, m⟩, rfl, h.st, h2, h1, rfl⟩)
      go_wp2
      go_ret
      exact HF.out
end Go.Proofs.Ythfholnnkdoagaa
