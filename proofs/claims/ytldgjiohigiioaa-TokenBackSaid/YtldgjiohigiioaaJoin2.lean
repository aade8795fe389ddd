/-
  Layer 2: the contract of the answer's Joined. Own work.
-/
import Derived.Test.YtldgjiohigiioaaBack2c
import Derived.Test.YtldgjiohigiioaaAll2b
import Derived.Test.YtldgjiohigiioaaPrint2b
namespace Go.Proofs.Ytldgjiohigiioaa
set_option linter.unusedVariables false
set_option linter.unusedSimpArgs false
open Go.RowKit

/-- on the way: the tokens so far in v; their attributes stand where they stood -/
structure J2 (w : World) (acc : List (Tm × Value)) (v : Value) (wk : World) : Prop where
  b : Below w.heap.size w wk
  o : wk.ownsRow w.heap.size 34 7 v acc.length (rowTs acc)
  a : ∀ p ∈ acc, RdAs w p.2 p.1.ats
section
variable {w wk wk' : World} {acc : List (Tm × Value)} {v : Value}
theorem J2.below (h : J2 w acc v wk) (hb : Below wk.heap.size wk wk') : J2 w acc v wk' := ⟨h.b.trans (hb.mono h.b.size), own_belowG h.o hb, h.a⟩
theorem J2.push {v' va : Value} {x : Tm} (h : J2 w acc v wk) (hva : RdAs w va x.ats) (ho : wk'.ownsRow w.heap.size 34 7 v' (acc.length + 1) (rowTs acc ++ tmL x va)) (hg : wk.grownBy wk' v.ownBlock) :
    J2 w (acc ++ [(x, va)]) v' wk' := by
  have hlt : ∀ q, v.ownBlock = some q → w.heap.size ≤ q := fun q hq => (h.o.lt q hq).1
  refine ⟨h.b.grown hg h.b.size hlt, ?_, ?_⟩
  · rw [List.length_append, List.length_singleton, rowTs_snoc]
    exact ho
  · intro p hp
    rcases List.mem_append.1 hp with hp | hp
    · exact h.a p hp
    · rw [List.mem_singleton] at hp
      subst hp
      exact hva
theorem J2.rd (h : J2 w acc v wk) : RdTs wk v (acc.map (·.1)) := RdTs.of_own h.o fun p hp => (h.a p hp).below h.b (Nat.le_refl _)
theorem rowTs_len : ∀ l : List (Tm × Value), (rowTs l).length = l.length * 7
  | [] => rfl
  | p :: l => by
    have := rowTs_len l
    simp only [rowTs, List.flatMap_cons, List.length_append, List.length_cons, tmL, List.length_nil] at this ⊢
    omega
theorem rowTs_set (a : List (Tm × Value)) (y : Tm) (vy : Value) (t : List UInt8) : (rowTs (a ++ [(y, vy)])).set (a.length * 7 + 3) (.string (str t)) = rowTs (a ++ [({ y with t := t }, vy)]) := by
  rw [rowTs_snoc, rowTs_snoc, List.set_append_right _ _ (by rw [rowTs_len]; omega), rowTs_len, show a.length * 7 + 3 - a.length * 7 = 3 by omega]
  rfl
theorem J2.put {a : List (Tm × Value)} {y : Tm} {vy : Value} {g cap : Nat} (h : J2 w (a ++ [(y, vy)]) (.slice (some ⟨g, 0, none⟩) (a.length + 1) cap) wk) (t : List UInt8) :
    J2 w (a ++ [({ y with t := t }, vy)]) (.slice (some ⟨g, 0, none⟩) (a.length + 1) cap) (wk.setCell ⟨g, a.length * 7 + 3, none⟩ (.string (str t))) := by
  have ho := h.o
  rw [List.length_append, List.length_singleton] at ho
  have hs := World.ownsRow.stored ho (a.length * 7 + 3) (.string (str t))
  refine ⟨h.b.grown hs.2 h.b.size (fun q hq => by cases hq; exact (ho.lt g rfl).1), ?_, ?_⟩
  · rw [List.length_append, List.length_singleton, ← rowTs_set]
    exact hs.1
  · intro p hp
    rcases List.mem_append.1 hp with hp | hp
    · exact h.a p (List.mem_append_left _ hp)
    · rw [List.mem_singleton] at hp
      subst hp
      exact h.a (y, vy) (List.mem_append_right _ (List.mem_singleton.2 rfl))
end
/-- a token behind a row of one's own -/
theorem appJ2 {ops : Array Oper} {rest : List Oper} {o : Oper} {a : Act} {Q : Exit → Act → World → Prop} {w0 : World} (p : Tm) (va : Value) (hva : va.oneCell' = true) (hgd : o.guard = none) (s x : Operand)
    (ho : o.op = .call { callee := .builtin .append, args := #[s, x], argTypes := #[23, 23] }) (base n : Nat)
    (v : Value) (xs : List Value) (hs : a.eval s = v) (hown : w0.ownsRow base 34 7 v n xs) (hx : a.eval x = .slice (some ⟨w0.heap.size, 0, none⟩) 1 1)
    (h63 : n ≤ 10000000) (hbase : base ≤ w0.heap.size)
    (h : ∀ v' w', w'.ownsRow base 34 7 v' (n + 1) (xs ++ tmL p va) → w0.grownBy w' v.ownBlock → wpList Try.prog ops Q rest (a.put o.dst v') w') :
    wpList Try.prog ops Q (o :: rest) a (w0.alloc (.cells #[.int .i64 p.k, .string (str p.n), va, .string (str p.t), .int .i64 p.po, .int .i64 p.pl, .int .i64 p.pc] 34)) := by
  obtain ⟨i, hi, hz, hsize, hby⟩ := info_parts token_info
  refine wpList_append_own _ hgd s x _ ho base 34 i _ 7 88 Try.underlying23 hi hz hsize hby rfl (by omega) v n xs hs (hown.alloc _) ⟨w0.heap.size, 0, none⟩ 1 1 (tmL p va) hx rfl ?_ ?_ (by simp only [maxLen]; omega) (by omega) (by simp; omega) ?_
  · intro j y hj
    rw [show (⟨w0.heap.size, 0, none⟩ : Addr).add j = ⟨w0.heap.size, j, none⟩ by unfold Addr.add; split <;> simp_all, World.cell?_alloc_at _ _ _ _ rfl]
    simpa [tmL] using hj
  · intro u hu
    simp only [tmL, List.mem_cons, List.not_mem_nil, or_false] at hu
    rcases hu with rfl | rfl | rfl | rfl | rfl | rfl | rfl <;> first | rfl | exact hva
  · intro v' w' ho' hg _
    exact h v' w' ho' ⟨hg.os, hg.tape, hg.output, Nat.le_trans (by simp) hg.size, fun k hk hne => (hg.block k (by simp; omega) hne).trans (Below.heap_alloc _ _ _ hk)⟩
theorem jn_len (acc : List Tm) (x : Tm) : (jn acc x).length ≤ acc.length + 1 := by
  by_cases h : x.k = 4 ∧ x.t = []
  · rw [jn_skip h.1 h.2]; omega
  · rcases nil_or acc with rfl | ⟨a, y, rfl⟩
    · rw [jn_nil h]; simp
    · by_cases hy : x.k = 4 ∧ y.k = 4
      · rw [jn_merge hy.1 (fun ht => h ⟨hy.1, ht⟩) hy.2]; simp
      · rw [jn_push h hy]; simp
theorem join_snoc (l : List Tm) (k : Nat) (x : Tm) (h : l[k]? = some x) : joinM (l.take (k + 1)) = jn (joinM (l.take k)) x := by
  rw [take_snoc _ k x h]
  unfold joinM
  rw [List.foldl_append]
  rfl
theorem join_len (l : List Tm) : ∀ k, (joinM (l.take k)).length ≤ k
  | 0 => by simp [joinM]
  | k + 1 => by
    cases h : l[k]? with
    | none =>
      have hk : l.length ≤ k := by simpa using h
      have := join_len l k
      rw [List.take_of_length_le (by omega)] at this ⊢
      omega
    | some x =>
      rw [join_snoc l k x h]
      have := jn_len (joinM (l.take k)) x
      have := join_len l k
      omega
theorem text_le {a : List Tm} {y : Tm} (h : y.k = 4) : y.t.length ≤ (prM (a ++ [y])).length := by
  rw [prM_app, prM_one, pr_text h, List.length_append]
  have := esc_ge false y.t
  omega
set_option maxRecDepth 100000 in
set_option maxHeartbeats 8000000 in
theorem Joined_any (v : Value) (l : List Tm) (w : World) (hr : RdTs w v l) (hl : l.length ≤ 1000000) (hsz : (prM l).length ≤ 1000000) :
    Calls Try.prog 19 #[v] w fun e w' => Below w.heap.size w w' ∧ ∃ v', e = .returned v' ∧ RdTs w' v' (joinM l) := by
  obtain ⟨va, vc, hv⟩ := RdSl.shape hr
  subst hv
  have hlaI : (l.length : Int) ≤ 1000000 := by omega
  have HR := Lib.hid hr
  have HL := Lib.hid hl
  have HSZ := Lib.hid hsz
  clear hr hl hsz
  go_enter Try.func19, Try.ntmps19
  go_wp2_with fail
  go_loopw [3, 9] (fun v i wr => ∃ (q : Nat) (acc : List (Tm × Value)), q ≤ l.length ∧ i = .int .i64 q ∧ acc.map (·.1) = joinM (l.take q) ∧ J2 w acc v wr) (fun _ i _ => l.length - (intOf i).toNat)
  case atStart => exact ⟨0, [], by omega, rfl, rfl, ⟨Below.refl _ _, World.ownsRow_nil _ _ _ _, by simp⟩⟩
  case round =>
    obtain ⟨q, acc, hq, rfl, hacc, hj⟩ := hrel
    have HACC := Lib.hid hacc
    have HLEN := Lib.hid (show acc.length ≤ q by have := join_len l q; rw [← hacc, List.length_map] at this; exact this)
    obtain ⟨ua, uc, hu⟩ := RdSl.shape hj.rd
    rw [List.length_map] at hu
    subst hu
    by_cases hlt : q < l.length
    · obtain ⟨x, hx⟩ : ∃ x, l[q]? = some x := ⟨_, List.getElem?_eq_getElem hlt⟩
      obtain ⟨bb, e1, ta, ⟨x0, x1, x2, x3, x4, x5, x6⟩, hats⟩ := RdSl.elem HR.out hx
      have c0 := (hj.b.cell (World.block_lt_of_cell? w _ x0)).trans x0
      have c1 := (hj.b.cell (World.block_lt_of_cell? w _ x1)).trans x1
      have c2 := (hj.b.cell (World.block_lt_of_cell? w _ x2)).trans x2
      have c3 := (hj.b.cell (World.block_lt_of_cell? w _ x3)).trans x3
      have c4 := (hj.b.cell (World.block_lt_of_cell? w _ x4)).trans x4
      have c5 := (hj.b.cell (World.block_lt_of_cell? w _ x5)).trans x5
      have c6 := (hj.b.cell (World.block_lt_of_cell? w _ x6)).trans x6
      clear x0 x1 x2 x3 x4 x5 x6
      subst e1
      have HSN := Lib.hid (join_snoc l q x hx)
      have HPS := Lib.hid (show (prM (l.take q)).length + (prT x.k x.n x.ats x.t).length ≤ 1000000 by
        have h1 := prM_le l (q + 1)
        rw [prM_snoc l q x hx, List.length_append] at h1
        have := HSZ.out
        omega)
      rw [← HACC.out] at HSN
      obtain ⟨k, n, ats, t, p0, p1, p2⟩ := x
      dsimp only at c0 c1 c2 c3 c4 c5 c6 hats HPS
      obtain ⟨ya, yc, hya⟩ := RdSl.shape hats
      subst hya
      obtain ⟨wb, hwb⟩ : ∃ wb, wb = wr.alloc (.cells #[.int .i64 k, .string (str n), .slice ya ats.length yc, .string (str t), .int .i64 p0, .int .i64 p1, .int .i64 p2] 34) := ⟨_, rfl⟩
      have hbb : Below wr.heap.size wr wb := by rw [hwb]; exact (Below.refl _ _).alloc (Nat.le_refl _) _
      have hrow : wb.heap[wr.heap.size]? = some (.cells #[.int .i64 k, .string (str n), .slice ya ats.length yc, .string (str t), .int .i64 p0, .int .i64 p1, .int .i64 p2] 34 (0, 0)) := by rw [hwb]; exact heap_alloc_new wr _
      have HJ := Lib.hid (hj.below hbb)
      have HATS := Lib.hid hats
      have HWB := Lib.hid hwb
      have HROW := Lib.hid hrow
      have hqI : (q : Int) < (l.length : Int) := by omega
      obtain ⟨I, hI⟩ : ∃ I : Int, I = (acc.length : Int) - 1 := ⟨_, rfl⟩
      have hNI : (acc.length : Int) ≤ 1000000 := by have := HLEN.out; omega
      have hwI : IntKind.i64.wrap ((acc.length : Int) - 1) = I := by rw [IntWalk.i64_in _ (by omega)]; exact hI.symm
      have HI := Lib.hid hI
      clear hj hbb hwb hrow hats hx hacc hI
      go_upto_region 5 with fail
      rw [← HWB.out]
      have HKB := Lib.hid (show wr.heap.size < wb.heap.size from (Array.getElem?_eq_some_iff.1 HROW.out).1)
      generalize wr.heap.size = KB at HROW HKB ⊢
      clear c0 c1 c2 c3 c4 c5 c6
      have z0 : wb.cell? ⟨KB, 0, none⟩ = some (.int .i64 k) := by rw [cell_of_row wb _ 0 _ _ (0, 0) HROW.out]; rfl
      have z3 : wb.cell? ⟨KB, 3, none⟩ = some (.string (str t)) := by rw [cell_of_row wb _ 3 _ _ (0, 0) HROW.out]; rfl
      have hpush : ∀ (hp : jn (acc.map (·.1)) ⟨k, n, ats, t, p0, p1, p2⟩ = acc.map (·.1) ++ [⟨k, n, ats, t, p0, p1, p2⟩]) (v' : Value) (w' : World), J2 w (acc ++ [(⟨k, n, ats, t, p0, p1, p2⟩, .slice ya ats.length yc)]) v' w' →
          ∃ acc' : List (Tm × Value), acc'.map (·.1) = joinM (l.take (q + 1)) ∧ J2 w acc' v' w' := fun hp v' w' h => ⟨_, by rw [HSN.out, hp]; simp, h⟩
      by_cases k4 : k = 4
      case neg =>
        have q4 : (k == 4) = false := by simpa using k4
        have hpn : jn (acc.map (·.1)) ⟨k, n, ats, t, p0, p1, p2⟩ = acc.map (·.1) ++ [⟨k, n, ats, t, p0, p1, p2⟩] := by
          rcases nil_or (acc.map (·.1)) with h | ⟨a, y, h⟩
          · rw [h, jn_nil (fun h => k4 h.1)]; rfl
          · rw [h, jn_push (fun h => k4 h.1) (fun h => k4 h.1)]
        have HPU := Lib.hid (hpush hpn)
        clear hpush hpn k4
        have z1 : wb.cell? ⟨KB, 1, none⟩ = some (.string (str n)) := by rw [cell_of_row wb _ 1 _ _ (0, 0) HROW.out]; rfl
        have z2 : wb.cell? ⟨KB, 2, none⟩ = some (.slice ya ats.length yc) := by rw [cell_of_row wb _ 2 _ _ (0, 0) HROW.out]; rfl
        have z4 : wb.cell? ⟨KB, 4, none⟩ = some (.int .i64 p0) := by rw [cell_of_row wb _ 4 _ _ (0, 0) HROW.out]; rfl
        have z5 : wb.cell? ⟨KB, 5, none⟩ = some (.int .i64 p1) := by rw [cell_of_row wb _ 5 _ _ (0, 0) HROW.out]; rfl
        have z6 : wb.cell? ⟨KB, 6, none⟩ = some (.int .i64 p2) := by rw [cell_of_row wb _ 6 _ _ (0, 0) HROW.out]; rfl
        have hown6 := HJ.out.o
        have h100 : acc.length ≤ 10000000 := by omega
        have hbase : w.heap.size ≤ wb.heap.size := HJ.out.b.size
        go_wp2_with (first
          | (refine appJ2 ⟨k, n, ats, t, p0, p1, p2⟩ (.slice ya ats.length yc) rfl rfl _ _ rfl w.heap.size acc.length _ _ rfl hown6 rfl h100 hbase ?_; intro v' w7 ho7 hg7))
        have HJ7 := Lib.hid (HJ.out.push (x := ⟨k, n, ats, t, p0, p1, p2⟩) HATS.out ho7 hg7)
        clear hown6 h100 hbase ho7 hg7
        go_wp2
        go_roundw
        case rel => exact ⟨q + 1, (HPU.out _ _ HJ7.out).choose, by omega, by go_num, (HPU.out _ _ HJ7.out).choose_spec⟩
        case measure => simp [intOf]; omega
      have q4 : (k == 4) = true := by rw [k4]; rfl
      by_cases ht : t = []
      · have HPU := Lib.hid (show acc.map (·.1) = joinM (l.take (q + 1)) by rw [HSN.out, jn_skip k4 ht])
        have htE : str t = ⟨#[]⟩ := by rw [ht]; rfl
        clear k4 ht hpush
        go_wp2
        go_roundw
        case rel => exact ⟨q + 1, acc, by omega, by go_num, HPU.out, HJ.out⟩
        case measure => simp [intOf]; omega
      have hne : (str t).toList.isEmpty = false := by
        rw [ByteArray.toList_eq, toList_str]
        cases t with
        | nil => exact absurd rfl ht
        | cons c t => rfl
      have hx4 : ¬ (k = 4 ∧ t = []) := fun h => ht h.2
      rcases List.eq_nil_or_concat acc with hA | ⟨a, ⟨y, vy⟩, hA⟩
      · have hI0 : ¬ (0 ≤ I) := by rw [HI.out, hA]; simp
        have HPU := Lib.hid (hpush (by rw [hA]; exact jn_nil hx4))
        clear hpush k4 ht hx4 hA
        have z1 : wb.cell? ⟨KB, 1, none⟩ = some (.string (str n)) := by rw [cell_of_row wb _ 1 _ _ (0, 0) HROW.out]; rfl
        have z2 : wb.cell? ⟨KB, 2, none⟩ = some (.slice ya ats.length yc) := by rw [cell_of_row wb _ 2 _ _ (0, 0) HROW.out]; rfl
        have z4 : wb.cell? ⟨KB, 4, none⟩ = some (.int .i64 p0) := by rw [cell_of_row wb _ 4 _ _ (0, 0) HROW.out]; rfl
        have z5 : wb.cell? ⟨KB, 5, none⟩ = some (.int .i64 p1) := by rw [cell_of_row wb _ 5 _ _ (0, 0) HROW.out]; rfl
        have z6 : wb.cell? ⟨KB, 6, none⟩ = some (.int .i64 p2) := by rw [cell_of_row wb _ 6 _ _ (0, 0) HROW.out]; rfl
        have hown6 := HJ.out.o
        have h100 : acc.length ≤ 10000000 := by omega
        have hbase : w.heap.size ≤ wb.heap.size := HJ.out.b.size
        go_wp2_with (first
          | (refine appJ2 ⟨k, n, ats, t, p0, p1, p2⟩ (.slice ya ats.length yc) rfl rfl _ _ rfl w.heap.size acc.length _ _ rfl hown6 rfl h100 hbase ?_; intro v' w7 ho7 hg7))
        have HJ7 := Lib.hid (HJ.out.push (x := ⟨k, n, ats, t, p0, p1, p2⟩) HATS.out ho7 hg7)
        clear hown6 h100 hbase ho7 hg7
        go_wp2
        go_roundw
        case rel => exact ⟨q + 1, (HPU.out _ _ HJ7.out).choose, by omega, by go_num, (HPU.out _ _ HJ7.out).choose_spec⟩
        case measure => simp [intOf]; omega
      have hA : acc = a ++ [(y, vy)] := by simpa using hA
      have hIn : I = (a.length : Int) := by rw [HI.out, hA]; simp
      have hle1 : a.length + 1 = acc.length := by rw [hA]; simp
      obtain ⟨ag, hua⟩ : ∃ g, ua = some ⟨g, 0, none⟩ := by
        rcases HJ.out.o.2 with ⟨h1, h2⟩ | ⟨g, cap, cur, h1, _⟩
        · omega
        · cases h1; exact ⟨g, rfl⟩
      subst hua
      have hcell : ∀ c u, (tmL y vy)[c]? = some u → c < 7 → wb.cell? ⟨ag, a.length * 7 + c, none⟩ = some u := fun c u hu hc => by
        have h1 := HJ.out.o.cells (g := ag) rfl _ _ ((rowTs_at acc a.length c (y, vy) (by rw [hA]; simp) hc).trans hu)
        rw [show (⟨ag, 0, none⟩ : Addr).add (a.length * 7 + c) = ⟨ag, a.length * 7 + c, none⟩ by unfold Addr.add; split <;> rename_i h0 <;> simp [h0]] at h1
        exact h1
      have y0 : wb.cell? ⟨ag, a.length * 7, none⟩ = some (.int .i64 y.k) := hcell 0 _ rfl (by decide)
      have y3 : wb.cell? ⟨ag, a.length * 7 + 3, none⟩ = some (.string (str y.t)) := hcell 3 _ rfl (by decide)
      have hI0 : (0 : Int) ≤ (a.length : Int) := by omega
      have hIL : (a.length : Int) < (acc.length : Int) := by omega
      by_cases ky : y.k = 4
      case neg =>
        have qy : (y.k == 4) = false := by simpa using ky
        have HPU := Lib.hid (hpush (by rw [hA, List.map_append]; exact jn_push hx4 (fun h => ky h.2)))
        rw [hIn] at hwI
        clear hpush k4 ht hx4 ky hA hcell hIn HI I hle1
        have z1 : wb.cell? ⟨KB, 1, none⟩ = some (.string (str n)) := by rw [cell_of_row wb _ 1 _ _ (0, 0) HROW.out]; rfl
        have z2 : wb.cell? ⟨KB, 2, none⟩ = some (.slice ya ats.length yc) := by rw [cell_of_row wb _ 2 _ _ (0, 0) HROW.out]; rfl
        have z4 : wb.cell? ⟨KB, 4, none⟩ = some (.int .i64 p0) := by rw [cell_of_row wb _ 4 _ _ (0, 0) HROW.out]; rfl
        have z5 : wb.cell? ⟨KB, 5, none⟩ = some (.int .i64 p1) := by rw [cell_of_row wb _ 5 _ _ (0, 0) HROW.out]; rfl
        have z6 : wb.cell? ⟨KB, 6, none⟩ = some (.int .i64 p2) := by rw [cell_of_row wb _ 6 _ _ (0, 0) HROW.out]; rfl
        have hown6 := HJ.out.o
        have h100 : acc.length ≤ 10000000 := by omega
        have hbase : w.heap.size ≤ wb.heap.size := HJ.out.b.size
        go_wp2_with (first
          | (refine appJ2 ⟨k, n, ats, t, p0, p1, p2⟩ (.slice ya ats.length yc) rfl rfl _ _ rfl w.heap.size acc.length _ _ rfl hown6 rfl h100 hbase ?_; intro v' w7 ho7 hg7))
        have HJ7 := Lib.hid (HJ.out.push (x := ⟨k, n, ats, t, p0, p1, p2⟩) HATS.out ho7 hg7)
        clear hown6 h100 hbase ho7 hg7
        go_wp2
        go_roundw
        case rel => exact ⟨q + 1, (HPU.out _ _ HJ7.out).choose, by omega, by go_num, (HPU.out _ _ HJ7.out).choose_spec⟩
        case measure => simp [intOf]; omega
      have qy : (y.k == 4) = true := by rw [ky]; rfl
      have hyt : y.t.length + t.length ≤ 1000000 := by
        have h1 := HPS.out
        have h2 := text_le (a := a.map (fun p => p.1)) ky
        have h3 : prM (l.take q) = prM (a.map (fun p => p.1) ++ [y]) := by rw [← join_pr (l.take q), ← HACC.out, hA, List.map_append]; rfl
        rw [h3, show prT k n ats t = escS false t by rw [k4]; rfl] at h1
        have h4 := esc_ge false t
        omega
      have HNEW := Lib.hid (show (a ++ [(({ y with t := y.t ++ t } : Tm), vy)]).map (fun p => p.1) = joinM (l.take (q + 1)) by
        rw [HSN.out, hA, List.map_append, List.map_append]
        exact (jn_merge (x := ⟨k, n, ats, t, p0, p1, p2⟩) k4 ht ky).symm)
      have HJP := Lib.hid (J2.put (g := ag) (cap := uc) (a := a) (y := y) (vy := vy) (by have := HJ.out; rw [← hle1] at this; rw [← hA]; exact this) (y.t ++ t))
      rw [hle1] at HJP
      have hs1 : ((str y.t).size : Int) ≤ 1000000 := by rw [size_str]; omega
      have hs2 : ((str t).size : Int) ≤ 1000000 := by rw [size_str]; omega
      have hs3 : ((str y.t).size : Int) + ((str t).size : Int) ≤ 1000000 := by rw [size_str, size_str]; omega
      have fz : wb.frozen? ⟨ag, a.length * 7 + 3, none⟩ = false := World.ownsRow.frozenAt HJ.out.o _
      have HCAT := Lib.hid (app_str y.t t)
      rw [hIn] at hwI
      clear hpush k4 ht hx4 ky hA hcell hIn HI I hyt hle1
      have HJD := Lib.hid (HJP.out.below (wk' := (wb.setCell ⟨ag, a.length * 7 + 3, none⟩ (.string (str (y.t ++ t)))).drew) ⟨rfl, rfl, rfl, Nat.le_refl _, fun _ _ => rfl⟩)
      rw [← HCAT.out] at HJD
      go_upto_region 8 with fail
      go_region
      go_wp2
      go_roundw
      case rel => exact ⟨q + 1, _, by omega, by go_num, HNEW.out, HJD.out⟩
      case measure => simp [intOf]; omega
    · have hle : (l.length : Int) ≤ q := by omega
      have HTA := Lib.hid (show l.take q = l from List.take_of_length_le (by omega))
      have HJ := Lib.hid hj
      clear hj
      go_wp2
      go_ret
      refine ⟨HJ.out.b, _, rfl, ?_⟩
      rw [← HTA.out, ← HACC.out]
      exact HJ.out.rd
end Go.Proofs.Ytldgjiohigiioaa
