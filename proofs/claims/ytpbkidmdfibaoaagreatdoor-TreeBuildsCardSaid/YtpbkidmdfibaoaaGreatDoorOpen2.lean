/-
  Layer 2: contract of the reader's method opening. Own work.
-/
import Derived.Test.YtpbkidmdfibaoaaGreatDoorAttr2
import Derived.Deep.RegionHeld3
import Derived.Deep.RegionLaw
import Derived.Deep.AppendLies
namespace Go.Proofs.YtpbkidmdfibaoaaGreatDoor
set_option linter.unusedVariables false
set_option linter.unusedSimpArgs false
open Go.RowKit

/-- what ends a tag -/
def endM (n : List UInt8) (ats : List At2) (r2 : List UInt8) : Rs (Int × List UInt8 × List At2) :=
  match r2 with
  | [] => .bad 13 []
  | c :: r3 => if c = 47 then (mustM 62 r3).bind fun _ r4 => .ok (2, n, ats) r4 else (mustM 62 (c :: r3)).bind fun _ r4 => .ok (1, n, ats) r4
theorem openM_eq (r : List UInt8) : openM r = (nameM 11 r).bind fun n r1 => (attrsM (r1.length + 1) [] r1).bind (endM n) := rfl
theorem bind_ok {α β : Type} {x : Rs α} {f : α → List UInt8 → Rs β} {b : β} {r : List UInt8} (h : x.bind f = .ok b r) : ∃ a r1, x = .ok a r1 ∧ f a r1 = .ok b r := by
  cases x with
  | ok a r1 => exact ⟨a, r1, rfl, h⟩
  | bad e r1 => simp [Rs.bind] at h
theorem ok_len {α : Type} {x : Rs α} {a : α} {r r1 : List UInt8} (h : x = .ok a r1) (hl : x.left <:+ r) : r1.length ≤ r.length := by
  rw [h] at hl
  exact hl.length_le
theorem attr_len {ats : List At2} {r : List UInt8} {a : At2} {r2 : List UInt8} (h : attrM ats r = .ok a r2) : r2.length ≤ r.length := by
  unfold attrM at h
  obtain ⟨n, r1, h1, h⟩ := bind_ok h
  have l1 := ok_len h1 (name_left 10 r)
  split at h
  · simp at h
  · obtain ⟨u, r3, h3, h⟩ := bind_ok h
    have l3 := ok_len h3 (must_left 61 _)
    have l4 := blanks_len r1
    have l5 := blanks_len r3
    split at h
    · simp at h
    · next q r4 hb =>
      rw [hb] at l5
      simp only [List.length_cons] at l5
      split at h
      · obtain ⟨v, r5, h5, h⟩ := bind_ok h
        have l6 := ok_len h5 (let_left _ _ _ _ _)
        cases h
        rw [List.length_drop]
        omega
      · simp at h
/-- zero -/
abbrev tok0 : Array Value := #[.int .i64 0, .string ⟨#[]⟩, .slice none 0 0, .string ⟨#[]⟩, .int .i64 0, .int .i64 0, .int .i64 0]
/-- on the way through a tag: its token in T -/
structure O2 (w : World) (X R T : Nat) (k : Int) (n l r : List UInt8) (ats : List At2) (va : Value) (wk : World) : Prop where
  s : S2 w X R (tok0, 51) l r wk
  t : wk.heap[T]? = some (.cells #[.int .i64 k, .string (str n), va, .string ⟨#[]⟩, .int .i64 0, .int .i64 0, .int .i64 0] 51 (0, 0))
  o : wk.ownsRow (T + 1) 68 2 va ats.length (rowAs ats)
  hT : w.heap.size ≤ T ∧ T ≠ X ∧ R < T ∧ X < T
section
variable {w wk wk' : World} {X R T : Nat} {k : Int} {n l r r' : List UInt8} {ats : List At2} {va : Value}
theorem O2.lt (h : O2 w X R T k n l r ats va wk) : T < wk.heap.size := (Array.getElem?_eq_some_iff.1 h.t).1
theorem O2.mv (h : O2 w X R T k n l r ats va wk) (hm : Mv X l r' wk wk') : O2 w X R T k n l r' ats va wk' :=
  ⟨h.s.mv hm, (hm.2.block T h.lt (by simp; exact h.hT.2.1)).trans h.t, own_x h.o hm.2 (by have := h.hT; omega), h.hT⟩
theorem O2.below (h : O2 w X R T k n l r ats va wk) (hb : Below wk.heap.size wk wk') : O2 w X R T k n l r ats va wk' :=
  ⟨h.s.below hb, (hb.block T h.lt).trans h.t, own_belowG h.o hb, h.hT⟩
theorem O2.cells (h : O2 w X R T k n l r ats va wk) :
    (wk.cell? ⟨T, 0, none⟩ = some (.int .i64 k) ∧ wk.cell? ⟨T, 1, none⟩ = some (.string (str n)) ∧ wk.cell? ⟨T, 2, none⟩ = some va ∧ wk.cell? ⟨T, 3, none⟩ = some (.string ⟨#[]⟩)) ∧
      (wk.cell? ⟨T, 4, none⟩ = some (.int .i64 0) ∧ wk.cell? ⟨T, 5, none⟩ = some (.int .i64 0) ∧ wk.cell? ⟨T, 6, none⟩ = some (.int .i64 0)) := by
  refine ⟨⟨?_, ?_, ?_, ?_⟩, ?_, ?_, ?_⟩
  · rw [cell_of_row wk T 0 _ _ (0, 0) h.t]; rfl
  · rw [cell_of_row wk T 1 _ _ (0, 0) h.t]; rfl
  · rw [cell_of_row wk T 2 _ _ (0, 0) h.t]; rfl
  · rw [cell_of_row wk T 3 _ _ (0, 0) h.t]; rfl
  · rw [cell_of_row wk T 4 _ _ (0, 0) h.t]; rfl
  · rw [cell_of_row wk T 5 _ _ (0, 0) h.t]; rfl
  · rw [cell_of_row wk T 6 _ _ (0, 0) h.t]; rfl
theorem O2.frozen (h : O2 w X R T k n l r ats va wk) (o : Nat) : wk.frozen? ⟨T, o, none⟩ = false := frozen_of_row wk T o _ _ h.t
theorem O2.push {v' : Value} {a : At2} (h : O2 w X R T k n l r ats va wk) (ho : wk'.ownsRow (T + 1) 68 2 v' (ats.length + 1) (rowAs ats ++ atL a)) (hg : wk.grownBy wk' va.ownBlock) :
    O2 w X R T k n l r (ats ++ [a]) v' (wk'.setCell ⟨T, 2, none⟩ v') := by
  have hlt : ∀ q, va.ownBlock = some q → T + 1 ≤ q := fun q hq => (h.o.lt q hq).1
  have hb : Below (T + 1) wk wk' := (Below.refl _ _).grown hg (by have := h.lt; omega) hlt
  have ht : wk'.heap[T]? = _ := (hb.block T (by omega)).trans h.t
  have hr : wk'.heap[R]? = _ := (hb.block R (by have := h.hT; omega)).trans h.s.row
  have hx : wk'.heap[X]? = _ := (hb.block X (by have := h.hT; omega)).trans h.s.rt.2
  refine ⟨⟨⟨h.s.rt.1, ?_⟩, ?_, ?_, h.s.ne⟩, ?_, ?_, h.hT⟩
  · rw [heap_setCell_other wk' ⟨T, 2, none⟩ X v' (fun e => by have := h.hT; simp only at e; omega)]
    exact hx
  · refine FrX.set ?_ h.hT.1
    exact h.s.fr.trans (FrX.ofBelow (hb.mono (by have := h.hT; omega)))
  · rw [heap_setCell_other wk' ⟨T, 2, none⟩ R v' (fun e => by have := h.hT; simp only at e; omega)]
    exact hr
  · have := heap_setCell_same wk' T 2 _ _ v' ht
    simpa using this
  · rw [List.length_append, List.length_singleton, rowAs_snoc]
    exact ownsRow_setCell_below ho (a := ⟨T, 2, none⟩) (by simp) v'
theorem O2.kind (h : O2 w X R T k n l r ats va wk) (k' : Int) : O2 w X R T k' n l r ats va (wk.setCell ⟨T, 0, none⟩ (.int .i64 k')) := by
  refine ⟨⟨⟨h.s.rt.1, ?_⟩, ?_, ?_, h.s.ne⟩, ?_, ?_, h.hT⟩
  · rw [heap_setCell_other wk ⟨T, 0, none⟩ X _ (fun e => by have := h.hT; simp only at e; omega)]
    exact h.s.rt.2
  · exact FrX.set h.s.fr h.hT.1
  · rw [heap_setCell_other wk ⟨T, 0, none⟩ R _ (fun e => by have := h.hT; simp only at e; omega)]
    exact h.s.row
  · have := heap_setCell_same wk T 0 _ _ (.int .i64 k') h.t
    simpa using this
  · exact ownsRow_setCell_below h.o (a := ⟨T, 0, none⟩) (by simp) _
end
theorem own_mono2 {w : World} {B B' e size n : Nat} {v : Value} {xs : List Value} (h : w.ownsRow B e size v n xs) (hB : B' ≤ B) : w.ownsRow B' e size v n xs := by
  obtain ⟨h0, h1 | ⟨g, cap, cur, h2, h3, h4⟩⟩ := h
  · exact ⟨h0, .inl h1⟩
  · exact ⟨h0, .inr ⟨g, cap, cur, h2, Nat.le_trans hB h3, h4⟩⟩
theorem own_row2 {w : World} {B e size n O : Nat} {v : Value} {xs : List Value} {cs : Array Value} (h : w.ownsRow B e size v n xs) (hO : O < B) : (w.setRow O cs).ownsRow B e size v n xs := by
  refine h.kept (⟨rfl, rfl, rfl, by simp, fun k _ hk => setRow_other w O k cs (fun e => hk (by simp [e]))⟩ : w.grownBy (w.setRow O cs) (some O)) ?_
  cases hv : v.ownBlock with
  | none => exact .inl rfl
  | some b =>
    have := (h.lt b hv).1
    exact .inr (by simp; omega)
theorem add_off2 (g i : Nat) : (⟨g, 0, none⟩ : Addr).add i = ⟨g, i, none⟩ := by unfold Addr.add; split <;> simp_all
/-- an attribute behind a row of one's own -/
theorem stepA {P : Program} {w0 : World} {ops : Array Oper} {E : Prop} {o : Oper} {a : Act} {K : Act → World → Prop} {Q : Exit → Act → World → Prop} (p : At2) (s x : Operand) (t e : TypeId) (hgd : o.guard = none)
    (ho : o.op = .call { callee := .builtin .append, args := #[s, x], argTypes := #[t, t] }) (z : Value) (bytes base n : Nat)
    (ht : P.underlying t = some (.slice e)) (hinfo : (P.info? e).map (fun i => (i.zero, i.size, i.bytes)) = some (some z, 2, bytes)) (hzs : z.cells.size = 2)
    (v : Value) (xs : List Value) (hs : a.eval s = v) (hown : w0.ownsRow base e 2 v n xs) (hx : a.eval x = .slice (some ⟨w0.heap.size, 0, none⟩) 1 1)
    (h63 : n + 1 ≤ 281474976710656) (hbytes : (n + 1) * bytes ≤ 140737488355328) (hbase : base ≤ w0.heap.size)
    (h : ∀ v' w', w'.ownsRow base e 2 v' (n + 1) (xs ++ atL p) → w0.grownBy w' v.ownBlock → K (a.put o.dst v') w') :
    if Region.wanted o (yielded ops a.tmps) = true then Oper.wp P o a (w0.alloc (.cells #[.string (str p.1), .string (str p.2)] e)) K Q else E := by
  obtain ⟨i, hi, hz, hsize, hby⟩ := info_parts hinfo
  refine step_append_lies _ hgd s x t ho base e i z 2 bytes ht hi hz hsize hby hzs (by omega) v n xs hs (hown.alloc _) ⟨w0.heap.size, 0, none⟩ 1 1 (atL p) hx rfl ?_ (by simp [atL, Value.oneCell']) (by omega) (by simp only [maxLen]; omega) hbytes (by simp; omega) (w0.heap.size + 1) (by simp) ?_
  · intro j y hj
    rw [add_off2, cell_of_row _ w0.heap.size j _ e (0, 0) (heap_alloc_new w0 _)]
    have : (#[Value.string (str p.1), .string (str p.2)] : Array Value) = (atL p).toArray := rfl
    rw [this]
    simpa using hj
  · intro g cap w' ho' hg _ _
    exact h _ w' ho' ⟨hg.os, hg.tape, hg.output, Nat.le_trans (by simp) hg.size, fun k hk hne => (hg.block k (by simp; omega) hne).trans (Below.heap_alloc _ _ _ hk)⟩

/-- what opening leaves -/
def OpenQ (X : Nat) (l r : List UInt8) (w : World) (e : Ending) (w' : World) : Prop :=
  match openM r with
  | .ok x r2 => Mv X l r2 w w' ∧ ∃ va, e = .returned (.agg #[.int .i64 x.1, .string (str x.2.1), va, .string ⟨#[]⟩, .int .i64 0, .int .i64 0, .int .i64 0]) ∧ w'.ownsRow w.heap.size 68 2 va x.2.2.length (rowAs x.2.2)
  | .bad c r2 => e = bad2 c l r2 ∧ w.grownBy w' (some X)
theorem tok_results (tmps : Array Value) (w : World) (R : Nat) (cs : Array Value) (hs : cs.size = 7) (h2 : tmps.getD 2 undef = .pointer (some ⟨R, 0, none⟩))
    (hR : w.heap[R]? = some (.cells cs 51 (0, 0))) :
    (results Tryz.f85 tmps).run Tryz.prog w = .ok (.agg cs) w := by
  have h2' : tmps[2]?.getD undef = .pointer (some ⟨R, 0, none⟩) := by simpa using h2
  have l1 := run_loadVar_row w R 51 51 cs (0, 0) _ hR Tryz.underlying51 rfl (by rw [hs]; kernel_rfl)
  simp [results, Tryz.results85, h2', asAddr, l1]
theorem open_fin {X : Nat} {l r r5 n : List UInt8} {ats : List At2} {va : Value} {k : Int} {w wk : World} {T : Nat} {cs : Array Value} (hM : openM r = .ok (k, n, ats) r5) (h : O2 w X w.heap.size T k n l r5 ats va wk) :
    OpenQ X l r w (.returned (.agg #[.int .i64 k, .string (str n), va, .string ⟨#[]⟩, .int .i64 0, .int .i64 0, .int .i64 0])) (wk.setRow w.heap.size cs) := by
  unfold OpenQ
  rw [hM]
  refine ⟨RT.frx ⟨h.s.rt.1, (setRow_other wk w.heap.size X _ (Ne.symm h.s.ne)).trans h.s.rt.2⟩ (h.s.fr.setRow (Nat.le_refl _)), va, rfl, ?_⟩
  have ho : wk.ownsRow (w.heap.size + 1) 68 2 va ats.length (rowAs ats) := own_mono2 h.o (by have := h.hT; omega)
  exact own_mono2 (own_row2 ho (by omega)) (by omega)
theorem attr_two {X : Nat} {l r : List UInt8} {ats : List At2} {w w' : World} {e : Ending} (h : RsQ X l (attrM ats r) (fun p => .agg #[.string (str p.1), .string (str p.2)]) w e w') :
    (∃ e5 r5, attrM ats r = .bad e5 r5 ∧ e = bad2 e5 l r5 ∧ w.grownBy w' (some X)) ∨ ∃ p r5, attrM ats r = .ok p r5 ∧ e = .returned (.agg #[.string (str p.1), .string (str p.2)]) ∧ Mv X l r5 w w' := by
  cases hM : attrM ats r with
  | bad e5 r5 => rw [hM] at h; exact .inl ⟨e5, r5, rfl, h.1, h.2⟩
  | ok p r5 => rw [hM] at h; exact .inr ⟨p, r5, rfl, h.1, h.2⟩
set_option maxRecDepth 100000 in
set_option maxHeartbeats 8000000 in
theorem opening_at (X : Nat) (l r : List UInt8) (hl : l.length ≤ 1000000) (w : World) (h : RT w X l (60 :: r)) :
    Calls Tryz.prog 85 #[.pointer (some ⟨X, 0, none⟩)] w (OpenQ X l r w) := by
  have hXw := h.lt
  have HXW := Lib.hid hXw
  obtain ⟨wR, hwR⟩ : ∃ wR, wR = w.alloc (.cells tok0 51) := ⟨_, rfl⟩
  have hbR : Below w.heap.size w wR := by rw [hwR]; exact (Below.refl _ _).alloc (Nat.le_refl _) _
  have hR1 : wR.heap[w.heap.size]? = some (.cells tok0 51 (0, 0)) := by rw [hwR]; exact heap_alloc_new w _
  have HS := Lib.hid (show S2 w X w.heap.size (tok0, 51) l (60 :: r) wR from ⟨h.below hbR, FrX.ofBelow hbR, hR1, by omega⟩)
  have H1 := Lib.hid (must_at X l (60 :: r) 60 hl wR HS.out.rt)
  have HRL := Lib.hid (suf_len h.1)
  clear h hbR hR1
  have HWR := Lib.hid hwR
  clear hwR
  go_enter Tryz.func85, Tryz.ntmps85
  go_upto_region 1 with fail
  rw [show w.alloc (.cells #[.int .i64 0, .string ⟨#[]⟩, .slice none 0 0, .string ⟨#[]⟩, .int .i64 0, .int .i64 0, .int .i64 0] 51) = wR from HWR.out.symm]
  go_wp2_with fail
  refine H1.out.mono ?_
  rintro e w2 ⟨rfl, hm2⟩
  have HS2 := Lib.hid (show S2 w X w.heap.size (tok0, 51) l r w2 from HS.out.mv hm2)
  have H2 := Lib.hid (name_at X l r 11 hl w2 HS2.out.rt)
  clear hm2 H1
  cases hM : nameM 11 r with
  | bad c r1 =>
    have HMM := Lib.hid (show openM r = .bad c r1 by rw [openM_eq, hM]; rfl)
    rw [hM] at H2
    clear hM
    go_wp2_with fail
    refine H2.out.mono ?_
    rintro e w3 ⟨rfl, hm⟩
    have HG := Lib.hid (HS2.out.mv hm).fr
    clear hm
    go_wp2
    refine ⟨rfl, ?_⟩
    unfold OpenQ
    rw [HMM.out]
    exact ⟨rfl, HG.out.grown⟩
  | ok n r1 =>
    have HMM := Lib.hid (show openM r = (attrsM (r1.length + 1) [] r1).bind (endM n) by rw [openM_eq, hM]; rfl)
    rw [hM] at H2
    clear hM
    go_wp2_with fail
    refine H2.out.mono ?_
    rintro e w3 ⟨rfl, hm⟩
    have HS3 := Lib.hid (HS2.out.mv hm)
    have HL1 := Lib.hid (suf_len hm.1.1)
    clear hm H2
    have hO : O2 w X w.heap.size w3.heap.size 1 n l r1 [] (.slice none 0 0) (w3.alloc (.cells #[.int .i64 1, .string (str n), .slice none 0 0, .string ⟨#[]⟩, .int .i64 0, .int .i64 0, .int .i64 0] 51)) :=
      ⟨HS3.out.below ((Below.refl _ _).alloc (Nat.le_refl _) _), heap_alloc_new w3 _, World.ownsRow_nil _ _ _ _, by
        have h1 := HS3.out.fr.size
        have h2 := (Array.getElem?_eq_some_iff.1 HS3.out.row).1
        have h3 := HXW.out
        omega⟩
    have HO := Lib.hid hO
    clear hO
    go_upto_region 3 with fail
    go_loopw [] (fun wr => ∃ ats va r' f, r'.length < f ∧ (attrsM f ats r').bind (endM n) = openM r ∧ ats.length + r'.length ≤ r1.length ∧ O2 w X w.heap.size w3.heap.size 1 n l r' ats va wr) (fun wr => l.length - offW X wr)
    case atStart => exact ⟨[], _, r1, r1.length + 1, by omega, HMM.out.symm, by simp, HO.out⟩
    case round =>
      clear HO
      obtain ⟨ats, va, r', f, hf, hmod, hlen, ho⟩ := hrel
      have HMOD := Lib.hid hmod
      have HLEN := Lib.hid hlen
      have HO := Lib.hid ho
      obtain ⟨g, hg⟩ : ∃ g, f = g + 1 := ⟨f - 1, by omega⟩
      subst hg
      have HG := Lib.hid hf
      clear hmod hlen hf
      have H1 := Lib.hid (blanks_at X l r' hl wr ho.s.rt)
      clear ho
      have hbl := blanks_len r'
      go_upto_region 3 with fail
      go_cut [20] from 9 to 29 (fun t wx => ∃ r2, O2 w X w.heap.size w3.heap.size 1 n l r2 ats va wx ∧ ((t = .bool false ∧ endM n ats r2 = openM r) ∨ (t = .bool true ∧ ∃ c r3, r2 = c :: r3 ∧ r2.length < r'.length ∧ (attrM ats r2).bind (fun a r4 => (attrsM g (ats ++ [a]) r4).bind (endM n)) = openM r)))
      case first =>
        go_wp2_with fail
        refine H1.out.mono ?_
        rintro e w4 ⟨rfl, hm⟩
        have HO4 := Lib.hid (HO.out.mv hm)
        clear hm H1
        by_cases hb : blanksM r' = r'
        · have hdec : decide ((blanksM r').length < r'.length) = false := by rw [hb]; simp
          have HE := Lib.hid (show endM n ats (blanksM r') = openM r by rw [← HMOD.out, attrsM, if_pos hb, hb]; rfl)
          rw [hdec]
          clear hb hbl
          go_wp2_with fail
          go_meet
          exact ⟨_, HO4.out, .inl ⟨rfl, HE.out⟩⟩
        · have hlt : (blanksM r').length < r'.length := by
            rcases Nat.lt_or_ge (blanksM r').length r'.length with h | h
            · exact h
            · exact absurd ((blanks_left r').eq_of_length (by omega)) hb
          have hdec : decide ((blanksM r').length < r'.length) = true := decide_eq_true hlt
          have HE := Lib.hid (show openM r = (match blanksM r' with
            | [] => .bad 13 []
            | c :: r1 => if c = 47 || c = 62 then .ok ats (c :: r1) else (attrM ats (c :: r1)).bind fun a r2 => attrsM g (ats ++ [a]) r2 : Rs (List At2)).bind (endM n) by rw [← HMOD.out, attrsM, if_neg hb]; rfl)
          have HLT := Lib.hid hlt
          rw [hdec]
          generalize blanksM r' = rb at HE HO4 HLT
          clear hb hbl hlt
          cases rb with
          | nil =>
            have H4 := Lib.hid (peek_end X l w4 HO4.out.s.rt)
            have HFIN := Lib.hid (show openM r = .bad 13 [] from HE.out)
            go_wp2_with fail
            refine H4.out.mono ?_
            rintro e w7 ⟨rfl, hm7⟩
            have HG := Lib.hid (HO4.out.mv hm7).s.fr
            clear hm7
            go_wp2
            refine ⟨rfl, ?_⟩
            unfold OpenQ
            rw [HFIN.out]
            exact ⟨rfl, HG.out.grown⟩
          | cons c r3 =>
            have H4 := Lib.hid (peek_at X l r3 c w4 HO4.out.s.rt)
            go_wp2_with fail
            refine H4.out.mono ?_
            rintro e w5 ⟨rfl, hm5⟩
            have HO5 := Lib.hid (HO4.out.mv hm5)
            have H5 := Lib.hid (peek_at X l r3 c w5 hm5.1)
            clear hm5 H4
            by_cases h47 : c = 47
            · have hne : ((c.toNat : Int) != 47) = false := by rw [h47]; rfl
              have HFIN := Lib.hid (show endM n ats (c :: r3) = openM r by rw [HE.out]; simp only [h47]; rfl)
              clear h47
              go_wp2_with fail
              go_meet
              exact ⟨_, HO5.out, .inl ⟨rfl, HFIN.out⟩⟩
            · have hne : ((c.toNat : Int) != 47) = true := by
                rw [bne_iff_ne]
                intro h
                exact h47 (UInt8.toNat_inj.1 (by simpa using (show c.toNat = 47 by omega)))
              go_wp2_with fail
              refine H5.out.mono ?_
              rintro e w6 ⟨rfl, hm6⟩
              have HO6 := Lib.hid (HO5.out.mv hm6)
              clear hm6 H5
              by_cases h62 : c = 62
              · have hn2 : ((c.toNat : Int) != 62) = false := by rw [h62]; rfl
                have HFIN := Lib.hid (show endM n ats (c :: r3) = openM r by rw [HE.out]; simp only [h62]; rfl)
                clear h62 h47
                go_wp2_with fail
                go_meet
                exact ⟨_, HO6.out, .inl ⟨rfl, HFIN.out⟩⟩
              · have hn2 : ((c.toNat : Int) != 62) = true := by
                  rw [bne_iff_ne]
                  intro h
                  exact h62 (UInt8.toNat_inj.1 (by simpa using (show c.toNat = 62 by omega)))
                have HFIN := Lib.hid (show (attrM ats (c :: r3)).bind (fun a r4 => (attrsM g (ats ++ [a]) r4).bind (endM n)) = openM r by
                  rw [HE.out]
                  rw [if_neg (by simp [h47, h62])]
                  cases attrM ats (c :: r3) <;> rfl)
                clear h62 h47
                go_wp2_with fail
                go_meet
                exact ⟨_, HO6.out, .inr ⟨rfl, c, r3, rfl, HLT.out, HFIN.out⟩⟩
      case rest =>
        obtain ⟨r2, hoc, ⟨rfl, hfin⟩ | ⟨rfl, c, r3, rfl, hlt, hnx⟩⟩ := hcut
        · have HOC := Lib.hid hoc
          have HFIN := Lib.hid hfin
          clear hoc hfin HMOD HLEN HO HG hbl H1
          go_upto_region 5 with fail
          cases r2 with
          | nil =>
            have H4 := Lib.hid (peek_end X l wc HOC.out.s.rt)
            have HF2 := Lib.hid (show openM r = .bad 13 [] from HFIN.out.symm)
            go_wp2_with fail
            refine H4.out.mono ?_
            rintro e w5 ⟨rfl, hm5⟩
            have HG := Lib.hid (HOC.out.mv hm5).s.fr
            clear hm5
            go_wp2
            refine ⟨rfl, ?_⟩
            unfold OpenQ
            rw [HF2.out]
            exact ⟨rfl, HG.out.grown⟩
          | cons c r3 =>
          have H4 := Lib.hid (peek_at X l r3 c wc HOC.out.s.rt)
          go_wp2_with fail
          refine H4.out.mono ?_
          rintro e w5 ⟨rfl, hm5⟩
          have HO5 := Lib.hid (HOC.out.mv hm5)
          clear hm5 H4
          by_cases h47 : c = 47
          · have hne : ((c.toNat : Int) == 47) = true := by rw [h47]; rfl
            have HEQ := Lib.hid (show openM r = (mustM 62 r3).bind fun _ r4 => .ok (2, n, ats) r4 by rw [← HFIN.out, endM, if_pos h47])
            clear h47
            have z0 := HO5.out.cells.1.1
            have f0 := HO5.out.frozen 0
            go_upto_region 7 with fail
            have HO6a := Lib.hid (HO5.out.kind 2)
            generalize w5.setCell ⟨w3.heap.size, 0, none⟩ (.int .i64 2) = w6a at HO6a ⊢
            clear z0 f0
            have H6 := Lib.hid (skip_at X l (c :: r3) 1 (by simp) hl w6a HO6a.out.s.rt)
            go_wp2_with fail
            refine H6.out.mono ?_
            rintro e w6 ⟨rfl, hm6⟩
            have HO6 := Lib.hid (show O2 w X w.heap.size w3.heap.size 2 n l r3 ats va w6 from HO6a.out.mv hm6)
            have H7 := Lib.hid (must_at X l r3 62 hl w6 HO6.out.s.rt)
            clear hm6 H6
            cases hM : mustM 62 r3 with
            | bad e5 r5 =>
              have HF2 := Lib.hid (show openM r = .bad e5 r5 by rw [HEQ.out, hM]; rfl)
              rw [hM] at H7
              clear hM
              go_wp2_with fail
              refine H7.out.mono ?_
              rintro e w8 ⟨rfl, hm8⟩
              have HG := Lib.hid (HO6.out.mv hm8).s.fr
              clear hm8
              go_wp2
              refine ⟨rfl, ?_⟩
              unfold OpenQ
              rw [HF2.out]
              exact ⟨rfl, HG.out.grown⟩
            | ok u r5 =>
              have HF2 := Lib.hid (show openM r = .ok (2, n, ats) r5 by rw [HEQ.out, hM]; rfl)
              rw [hM] at H7
              clear hM
              go_wp2_with fail
              refine H7.out.mono ?_
              rintro e w8 ⟨rfl, hm8⟩
              have HO8 := Lib.hid (HO6.out.mv hm8)
              have HROW := Lib.hid HO8.out.s.row
              obtain ⟨⟨z0, z1, z2, z3⟩, z4, z5, z6⟩ := HO8.out.cells
              obtain ⟨aa, ac, rfl⟩ := RdSl.shape (RdAs.of_own HO8.out.o)
              clear hm8 H7
              go_wp2_with (refine wpList_store_row rfl 51 _ _ rfl w.heap.size #[.int .i64 2, .string (str n), .slice aa ats.length ac, .string ⟨#[]⟩, .int .i64 0, .int .i64 0, .int .i64 0] rfl rfl 51 _ HROW.out (by kernel_rfl) rfl (by simp [Value.oneCell']) ?_)
              refine bodyPost_ret (tok_results _ _ w.heap.size #[.int .i64 2, .string (str n), .slice aa ats.length ac, .string ⟨#[]⟩, .int .i64 0, .int .i64 0, .int .i64 0] rfl rfl (setRow_heap _ w.heap.size _ _ _ _ HROW.out)) rfl ?_
              exact open_fin HF2.out HO8.out
          · have hne : ((c.toNat : Int) == 47) = false := by
              rw [beq_eq_false_iff_ne]
              intro h
              exact h47 (UInt8.toNat_inj.1 (by simpa using (show c.toNat = 47 by omega)))
            have HEQ := Lib.hid (show openM r = (mustM 62 (c :: r3)).bind fun _ r4 => .ok (1, n, ats) r4 by rw [← HFIN.out, endM, if_neg h47])
            have HO6 := Lib.hid HO5.out
            have H7 := Lib.hid (must_at X l (c :: r3) 62 hl w5 HO6.out.s.rt)
            clear h47
            cases hM : mustM 62 (c :: r3) with
            | bad e5 r5 =>
              have HF2 := Lib.hid (show openM r = .bad e5 r5 by rw [HEQ.out, hM]; rfl)
              rw [hM] at H7
              clear hM
              go_wp2_with fail
              refine H7.out.mono ?_
              rintro e w8 ⟨rfl, hm8⟩
              have HG := Lib.hid (HO6.out.mv hm8).s.fr
              clear hm8
              go_wp2
              refine ⟨rfl, ?_⟩
              unfold OpenQ
              rw [HF2.out]
              exact ⟨rfl, HG.out.grown⟩
            | ok u r5 =>
              have HF2 := Lib.hid (show openM r = .ok (1, n, ats) r5 by rw [HEQ.out, hM]; rfl)
              rw [hM] at H7
              clear hM
              go_wp2_with fail
              refine H7.out.mono ?_
              rintro e w8 ⟨rfl, hm8⟩
              have HO8 := Lib.hid (HO6.out.mv hm8)
              have HROW := Lib.hid HO8.out.s.row
              obtain ⟨⟨z0, z1, z2, z3⟩, z4, z5, z6⟩ := HO8.out.cells
              obtain ⟨aa, ac, rfl⟩ := RdSl.shape (RdAs.of_own HO8.out.o)
              clear hm8 H7
              go_wp2_with (refine wpList_store_row rfl 51 _ _ rfl w.heap.size #[.int .i64 1, .string (str n), .slice aa ats.length ac, .string ⟨#[]⟩, .int .i64 0, .int .i64 0, .int .i64 0] rfl rfl 51 _ HROW.out (by kernel_rfl) rfl (by simp [Value.oneCell']) ?_)
              refine bodyPost_ret (tok_results _ _ w.heap.size #[.int .i64 1, .string (str n), .slice aa ats.length ac, .string ⟨#[]⟩, .int .i64 0, .int .i64 0, .int .i64 0] rfl rfl (setRow_heap _ w.heap.size _ _ _ _ HROW.out)) rfl ?_
              exact open_fin HF2.out HO8.out
        · have HOC := Lib.hid hoc
          have HNX := Lib.hid hnx
          have HLT := Lib.hid hlt
          clear hoc hnx hlt hbl H1
          go_upto_region 4 with fail
          have HA := Lib.hid (attr_at X (w3.heap.size + 1) l (c :: r3) ats va hl (by have := HOC.out.hT; omega) wc.drew (by have := HOC.out.lt; show _ ≤ wc.heap.size; omega) (HOC.out.below (Below.refl _ _).drew).s.rt (HOC.out.below (Below.refl _ _).drew).o)
          have HA2 := Lib.hid (HA.out.mono (fun e w5 hq => attr_two (w := wc.drew) hq))
          obtain ⟨⟨z0, z1, z2, z3⟩, z4, z5, z6⟩ := HOC.out.cells
          obtain ⟨aa, ac, rfl⟩ := RdSl.shape (RdAs.of_own HOC.out.o)
          have HATL := Lib.hid (show ats.length + 1 ≤ 1000000 by have h1 := HLEN.out; have h2 := HLT.out; have h3 := HL1.out; omega)
          clear HA z0 z1 z3 z4 z5 z6
          go_region_law (first
            | (go_simp; go_at_call 104; refine HA2.out.mono ?_; intro e w5 hq; obtain ⟨e5, r5, hM, rfl, hg⟩ | ⟨p, r5, hM, rfl, hm⟩ := hq; ((try dsimp only); have HFIN := Lib.hid (show openM r = .bad e5 r5 by rw [← HNX.out, hM]; rfl); have HFF := Lib.hid (HOC.out.s.fr.trans (FrX.ofGrown (w := wc) (B := w.heap.size) ⟨hg.os, hg.tape, hg.output, hg.size, hg.block⟩ HOC.out.s.fr.size)); clear hg hM z2; go_wp2; refine ⟨rfl, ?_⟩; unfold OpenQ; rw [HFIN.out]; exact ⟨rfl, HFF.out.grown⟩); (try dsimp only); have HM := Lib.hid hM; have HO5 := Lib.hid ((HOC.out.below (Below.refl _ _).drew).mv hm); have y2 := HO5.out.cells.1.2.2.1; have hT5 : w3.heap.size < w5.heap.size := HO5.out.lt; clear hm hM)
            | (refine stepA (w0 := w5) p (.tmp 22) (.tmp 27) 23 68 rfl rfl _ 32 (w3.heap.size + 1) ats.length Tryz.underlying23 attr_info rfl (.slice aa ats.length ac) _ (by simp [Act.eval, Act.put]) HO5.out.o (by simp [Act.eval, Act.put]) (by have := HATL.out; omega) (by have := HATL.out; omega) HO5.out.lt ?_; intro v1 w7 o7 g7; obtain ⟨gb, gc, rfl, _, _⟩ := o7.form (by omega); have h7 : w7.heap[w3.heap.size]? = _ := (g7.block w3.heap.size HO5.out.lt (fun e => by have := (HO5.out.o.lt _ e.symm).1; omega)).trans HO5.out.t; have f7 : w7.frozen? ⟨w3.heap.size, 2, none⟩ = false := frozen_of_row w7 _ 2 _ _ h7; have x7 : w7.cell? ⟨w3.heap.size, 2, none⟩ = some (.slice aa ats.length ac) := (by rw [cell_of_row w7 _ 2 _ _ (0, 0) h7]; rfl); clear h7))
          all_goals
            have HO7 := Lib.hid (HO5.out.push (a := p) o7 g7)
            have HNF := Lib.hid (show (attrsM g (ats ++ [p]) r5).bind (endM n) = openM r by rw [← HNX.out, HM.out]; rfl)
            have HLF := Lib.hid (show r5.length < g ∧ (ats ++ [p]).length + r5.length ≤ r1.length by have h1 := attr_len HM.out; have h2 := HLT.out; have h3 := HLEN.out; have h4 := HG.out; simp only [List.length_append, List.length_singleton]; omega)
            have HOF := Lib.hid (show l.length - offW X (w7.setCell ⟨w3.heap.size, 2, none⟩ (.slice (some ⟨gb, 0, none⟩) (ats.length + 1) gc)) < l.length - offW X wr by
              rw [HO7.out.s.rt.off, HO.out.s.rt.off]
              have h1 := attr_len HM.out; have h2 := HLT.out; have h3 := suf_len HO.out.s.rt.1; have h4 := suf_len HO7.out.s.rt.1
              omega)
            clear f7 x7 o7 g7 y2 z2 hT5 HA2
            go_wp2_with fail
            go_roundw
            case rel => exact ⟨ats ++ [p], _, r5, g, HLF.out.1, HNF.out, HLF.out.2, HO7.out⟩
            case measure => exact HOF.out
end Go.Proofs.YtpbkidmdfibaoaaGreatDoor
