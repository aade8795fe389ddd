/-
  Layer 5: the contract of the reader of ranges: intervals. Own work.
-/
import Derived.Test.YtnghagikchffiaaDoorRead5c
import Derived.Laws.OwnMore
import Derived.OwnWalk
import Derived.Maps.Range
namespace Go.Proofs.YtnghagikchffiaaDoor
set_option linter.unusedVariables false
set_option linter.unusedSimpArgs false
open Go.RowKit

theorem iv_info : (Tryd.prog.info? 61).map (fun i => (i.zero, i.size, i.bytes)) = some (some (.agg #[.bool false, .string .empty, .bool false, .bool false, .string .empty, .bool false]), 6, 64) := by kernel_rfl
def rowI (l : List Iv) : List Value := l.flatMap ivCells
theorem rowI_snoc (l : List Iv) (p : Iv) : rowI (l ++ [p]) = rowI l ++ ivCells p := by simp [rowI]
/-- what `append(s, x)` of one element of six cells does -/
theorem app6 {P : Program} {ops : Array Oper} {rest : List Oper} {o : Oper} {a : Act} {Q : Exit → Act → World → Prop} {w0 : World} (p : Iv) (hgd : o.guard = none) (s x : Operand) (t e : TypeId)
    (ho : o.op = .call { callee := .builtin .append, args := #[s, x], argTypes := #[t, t] }) (z : Value) (bytes base n : Nat)
    (ht : P.underlying t = some (.slice e)) (hinfo : (P.info? e).map (fun i => (i.zero, i.size, i.bytes)) = some (some z, 6, bytes)) (hzs : z.cells.size = 6)
    (v : Value) (xs : List Value) (hs : a.eval s = v) (hown : w0.ownsRow base e 6 v n xs) (hx : a.eval x = .slice (some ⟨w0.heap.size, 0, none⟩) 1 1)
    (h63 : n + 1 ≤ 281474976710656) (hbytes : (n + 1) * bytes ≤ 140737488355328) (hbase : base ≤ w0.heap.size)
    (h : ∀ v' w', w'.ownsRow base e 6 v' (n + 1) (xs ++ ivCells p) → w0.grownBy w' v.ownBlock → wpList P ops Q rest (a.put o.dst v') w') :
    wpList P ops Q (o :: rest) a (w0.alloc (.cells #[.bool p.lo.has, .string p.lo.ver, .bool p.lo.cl, .bool p.hi.has, .string p.hi.ver, .bool p.hi.cl] e)) := by
  obtain ⟨i, hi, hz, hsize, hby⟩ := info_parts hinfo
  refine wpList_append_own _ hgd s x t ho base e i z 6 bytes ht hi hz hsize hby hzs (by omega) v n xs hs (hown.alloc _) ⟨w0.heap.size, 0, none⟩ 1 1 (ivCells p) hx rfl ?_ (by simp [ivCells, Value.oneCell']) (by simp only [maxLen]; omega) hbytes (by simp; omega) ?_
  · intro j y hj
    have hadd : (⟨w0.heap.size, 0, none⟩ : Addr).add j = ⟨w0.heap.size, j, none⟩ := by unfold Addr.add; split <;> simp_all
    rw [hadd, cell_of_row _ w0.heap.size j _ e (0, 0) (heap_alloc_new w0 _)]
    have : (#[Value.bool p.lo.has, .string p.lo.ver, .bool p.lo.cl, .bool p.hi.has, .string p.hi.ver, .bool p.hi.cl] : Array Value) = (ivCells p).toArray := rfl
    rw [this]
    simpa using hj
  · intro v' w' ho' hg _
    exact h v' w' ho' ⟨hg.os, hg.tape, hg.output, Nat.le_trans (by simp) hg.size, fun k hk hne => (hg.block k (by simp; omega) hne).trans (Below.heap_alloc _ _ _ hk)⟩
/-- the further intervals, each behind a comma -/
def ivsM : Nat → ByteArray → Option (List Iv)
  | 0, _ => none
  | n + 1, s => if s.size = 0 then some [] else if nextS s = 44 then (match ivM (dropS s) with | some (p, r) => (ivsM n r).map (p :: ·) | none => none) else none
def ivAll (s : ByteArray) : Option (List Iv) := match ivM s with | some (p, r) => (ivsM (s.size + 1) r).map (p :: ·) | none => none
theorem dropS_less {s : ByteArray} (h : 1 ≤ s.size) : (dropS s).size + 1 ≤ s.size := by
  have := trimS_size (s.extract 1 s.size)
  unfold dropS
  rw [ByteArray.size_extract] at this
  omega
theorem ivM_size {s r : ByteArray} {p : Iv} (h : ivM s = some (p, r)) : r.size + 1 ≤ s.size ∧ p.lo.ver.size ≤ s.size ∧ p.hi.ver.size ≤ s.size := by
  unfold ivM at h
  split at h
  · rename_i h1
    have a1 := dropS_less (s := s) (nextS_pos (by omega))
    obtain ⟨b1, b2⟩ := endM_size (dropS s) (decide (nextS s = 91))
    simp only at h
    split at h
    · have c1 := dropS_size (endM (dropS s) (decide (nextS s = 91))).2
      obtain ⟨d1, d2⟩ := endM_size (dropS (endM (dropS s) (decide (nextS s = 91))).2) false
      split at h
      · have e1 := dropS_size (endM (dropS (endM (dropS s) (decide (nextS s = 91))).2) false).2
        simp only [Option.some.injEq, Prod.mk.injEq] at h
        obtain ⟨rfl, rfl⟩ := h
        refine ⟨by omega, by simp only; omega, by simp only; omega⟩
      · cases h
    · have c1 := dropS_size (endM (dropS s) (decide (nextS s = 91))).2
      split at h
      · simp only [Option.some.injEq, Prod.mk.injEq] at h
        obtain ⟨rfl, rfl⟩ := h
        refine ⟨by omega, by simp only; omega, by simp only; omega⟩
      · cases h
  · cases h
theorem ivM_some {s r : ByteArray} {p : Iv} (h : ivM s = some (p, r)) : 1 ≤ s.size := by
  unfold ivM at h
  split at h
  · rename_i h1
    exact nextS_pos (by omega)
  · cases h
def IvsP (b : Nat) (s : ByteArray) (w : World) (e : Ending) (w' : World) : Prop :=
  (∃ l v, ivAll s = some l ∧ e = .returned v ∧ w'.ownsRow w.heap.size 61 6 v l.length (rowI l) ∧ w.grownBy w' (some b) ∧ (∀ p ∈ l, p.lo.ver.size ≤ s.size ∧ p.hi.ver.size ≤ s.size) ∧ l.length ≤ s.size) ∨ (ivAll s = none ∧ e = bad5 ∧ w.grownBy w' (some b))
/-- what the loop keeps -/
def IvL (w0 : World) (b : Nat) (s : ByteArray) (w wr : World) (v : Value) (m : Nat) : Prop :=
  ∃ (n : Nat) (l : List Iv) (r : ByteArray) (u : Value), u = v ∧ r.size = m ∧ r.size + 1 ≤ n ∧ ivAll s = (ivsM n r).map (l ++ ·) ∧ RB wr b r ∧ wr.ownsRow w.heap.size 61 6 u l.length (rowI l) ∧ w.grownBy wr (some b) ∧ Tabs w0 wr b ∧
    (∀ p ∈ l, p.lo.ver.size ≤ s.size ∧ p.hi.ver.size ≤ s.size) ∧ l.length + r.size ≤ s.size
set_option maxRecDepth 100000 in
set_option maxHeartbeats 1000000 in
theorem ivsR_at (w0 : World) (b : Nat) (s : ByteArray) (hs : s.size ≤ 100000) (w : World) (hT : Tabs w0 w b) (h : RB w b s) :
    Calls Tryd.prog 27 #[.pointer (some ⟨b, 0, none⟩)] w (IvsP b s w) := by
  have hlt := h.lt
  have hiv := ivR_at w0 b s (by omega) w hT h
  have HIV := Lib.hid hiv
  have HT := Lib.hid hT
  clear hiv h hT
  go_enter Tryd.func27, Tryd.ntmps27
  go_wp2_with fail
  refine HIV.out.mono ?_
  rintro e w1 (⟨p, r, hm, rfl, hl⟩ | ⟨hm, rfl, hg⟩)
  · have hall : ivAll s = (ivsM (s.size + 1) r).map ([p] ++ ·) := by unfold ivAll; rw [hm]; rfl
    obtain ⟨m1, m2, m3⟩ := ivM_size hm
    have m4 := ivM_some hm
    have hz1 := hl.2.size
    have hT1 := HT.out.left hl.2
    have hgr := alloc_grown w1 (.cells #[.bool p.lo.has, .string p.lo.ver, .bool p.lo.cl, .bool p.hi.has, .string p.hi.ver, .bool p.hi.cl] 61) (some b)
    have hst : IvL w0 b s w (w1.alloc (.cells #[.bool p.lo.has, .string p.lo.ver, .bool p.lo.cl, .bool p.hi.has, .string p.hi.ver, .bool p.hi.cl] 61)) (.slice (some ⟨w1.heap.size, 0, none⟩) 1 1) r.size := by
      refine ⟨s.size + 1, [p], r, _, rfl, rfl, by omega, hall, hl.1.alloc _, ?_, hl.2.trans hgr, hT1.left hgr, ?_, by simp; omega⟩
      · exact World.ownsRow_lit (base := w.heap.size) (e := 61) (size := 6) w1 _ 1 hz1 (by decide) rfl
      · intro q hq
        simp at hq; subst hq
        exact ⟨m2, m3⟩
    have HST := Lib.hid hst
    clear hall hm hl hT1 hgr hst
    unfold ivV
    go_wp2_with fail
    go_loopw [3] (fun v wr => ∃ m, IvL w0 b s w wr v m) (fun v wr => match wr.cell? ⟨b, 0, none⟩ with | some (.string t) => t.size | _ => 0)
    case atStart => exact ⟨_, HST.out⟩
    case round =>
      obtain ⟨m, n, l, q, u, rfl, rfl, hn, hall, hr, hown, hg, hTr, hver, hlen⟩ := hrel
      have hcq := hr.cell
      have heq := emp_is q
      have HALL2 := Lib.hid hall
      have HR := Lib.hid hr
      have HG := Lib.hid hg
      have HV := Lib.hid hver
      have HOWN := Lib.hid hown
      obtain ⟨n', rfl⟩ : ∃ n', n = n' + 1 := ⟨n - 1, by omega⟩
      obtain ⟨ua, uc, rfl⟩ : ∃ a c, u = .slice a l.length c := by
        rcases hown.2 with ⟨h, h0⟩ | ⟨g, cap, cur, h, _⟩
        · exact ⟨none, 0, by rw [h, h0]⟩
        · exact ⟨_, _, h⟩
      by_cases hq0 : q.size = 0
      · rw [decide_eq_true hq0] at heq
        have hfin : ivAll s = some l := by rw [hall, ivsM, if_pos hq0]; simp
        have HF := Lib.hid hfin
        clear hfin hall hr hg hver hown hTr
        go_wp2
        go_ret
        exact .inl ⟨l, _, HF.out, rfl, HOWN.out, HG.out, HV.out, by omega⟩
      · rw [decide_eq_false hq0] at heq
        by_cases h44 : nextS q = 44 ∨ nextS q = 44
        · have htk := take_ok w0 b q (by omega) 44 44 (by omega) (by omega) h44 wr hTr hr
          have HTK := Lib.hid htk
          have HTR := Lib.hid hTr
          have hstep : ivAll s = (match ivM (dropS q) with | some (p, r) => (ivsM n' r).map (p :: ·) | none => none).map (l ++ ·) := by
            rw [hall, ivsM, if_neg hq0, if_pos (by omega)]
          have HSTEP := Lib.hid hstep
          have hdl := dropS_less (s := q) (by omega)
          clear htk hstep hall hr hg hver hown hTr
          go_wp2_with fail
          refine HTK.out.mono ?_
          rintro e w2 ⟨rfl, hl2⟩
          have hT2 := HTR.out.left hl2.2
          have hz2 := hl2.2.size
          have hiv2 := ivR_at w0 b (dropS q) (by omega) w2 hT2 hl2.1
          have HIV2 := Lib.hid hiv2
          have HT2 := Lib.hid hT2
          have HL2 := Lib.hid hl2
          clear hiv2 hT2 hl2
          go_wp2_with fail
          refine HIV2.out.mono ?_
          rintro e w3 (⟨p2, r2, hm2, rfl, hl3⟩ | ⟨hm2, rfl, hg3⟩)
          · obtain ⟨k1, k2, k3⟩ := ivM_size hm2
            have hT3 := HT2.out.left hl3.2
            have HT3 := Lib.hid hT3
            have HL3 := Lib.hid hl3
            have hob : ∀ k, (Value.slice ua l.length uc).ownBlock = some k → w.heap.size ≤ k := fun k hk => (HOWN.out.lt k hk).1
            have HOB := Lib.hid hob
            have hne : (Value.slice ua l.length uc).ownBlock = none ∨ (Value.slice ua l.length uc).ownBlock ≠ some b := by
              cases hc : (Value.slice ua l.length uc).ownBlock with
              | none => exact .inl rfl
              | some k => right; intro h; cases h; have := hob _ hc; have := HG.out.size; omega
            have hown3 := (HOWN.out.kept HL2.out.2 hne).kept hl3.2 hne
            have hz3 := hl3.2.size
            have hz := HG.out.size
            have hst2 : ivAll s = (ivsM n' r2).map ((l ++ [p2]) ++ ·) := by
              rw [HSTEP.out, hm2]
              simp only
              generalize ivsM n' r2 = o
              cases o with
              | none => rfl
              | some t => simp
            have HST2 := Lib.hid hst2
            clear hst2 hm2 hl3 hT3 hob hne
            unfold ivV
            go_wp2_with (at_builtin
                         refine app6 p2 rfl _ _ 23 61 rfl (.agg #[.bool false, .string .empty, .bool false, .bool false, .string .empty, .bool false]) 64 w.heap.size l.length Tryd.underlying23 iv_info rfl (.slice ua l.length uc) _ rfl hown3 rfl (by omega) (by omega) (by omega) ?_)
            intro v' w' ho' hg'
            have hgw : w.grownBy w' (some b) := ((HG.out.trans HL2.out.2).trans HL3.out.2).andThen hg' (fun j hj => .inl (HOB.out j hj))
            have hrb : RB w' b r2 := (hg'.block b HL3.out.1.lt (fun e => by have := HOB.out b e.symm; omega)).trans HL3.out.1
            have HGW := Lib.hid hgw
            have HRB := Lib.hid hrb
            have HO := Lib.hid ho'
            have HTW := Lib.hid (show Tabs w0 w' b from ⟨HT3.out.1, HT3.out.2.1.grown hg' HT3.out.2.1.size (fun k hk => Nat.le_trans (HT.out.2.1.size) (HOB.out k hk)), HT3.out.2.2⟩)
            clear ho' hg' hgw hrb hown3
            go_wp2
            go_roundw
            case rel =>
              refine ⟨r2.size, n', l ++ [p2], r2, _, rfl, rfl, by omega, HST2.out, HRB.out, ?_, HGW.out, HTW.out, ?_, by rw [List.length_append]; simp; omega⟩
              · rw [rowI_snoc, List.length_append]; exact HO.out
              · intro x hx
                rcases List.mem_append.1 hx with hx | hx
                · exact HV.out x hx
                · simp at hx; subst hx; exact ⟨by omega, by omega⟩
            case measure =>
              rw [HRB.out.cell, HR.out.cell]
              simp only
              omega
          · have hnone : ivAll s = none := by rw [HSTEP.out, hm2]; rfl
            have HN := Lib.hid hnone
            have HGW := Lib.hid ((HG.out.trans HL2.out.2).trans hg3)
            clear hnone hm2 hg3
            go_wp2
            exact ⟨rfl, .inr ⟨HN.out, rfl, HGW.out⟩⟩
        · have hnone : ivAll s = none := by rw [hall, ivsM, if_neg hq0, if_neg (by omega)]; rfl
          have HN := Lib.hid hnone
          have HTK := Lib.hid (take_bad b q 44 44 h44 wr hr)
          clear hnone hall hr hg hver hown hTr h44
          go_wp2_with fail
          refine HTK.out.mono ?_
          rintro e w2 ⟨rfl, rfl⟩
          go_wp2
          exact ⟨rfl, .inr ⟨HN.out, rfl, HG.out⟩⟩
  · have hall : ivAll s = none := by unfold ivAll; rw [hm]
    have HALL := Lib.hid hall
    have HG := Lib.hid hg
    clear hall hm hg
    go_wp2
    exact ⟨rfl, .inr ⟨HALL.out, rfl, HG.out⟩⟩
end Go.Proofs.YtnghagikchffiaaDoor
