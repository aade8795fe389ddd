/-
  Layer 8: a property's value. Own work.
-/
import Derived.Test.YthfholnnkdoagaaWay8
namespace Go.Proofs.Ythfholnnkdoagaa
set_option linter.unusedVariables false
set_option linter.unusedSimpArgs false
open Go.RowKit

/-- places and names that are met go together -/
structure WayOk (U : List Pp) (way : List Nat) (wayN : List (List UInt8)) : Prop where
  len : way.length = wayN.length
  mem : ∀ j p, U[j]? = some p → (j ∈ way ↔ p.1 ∈ wayN)
theorem WayOk.nil (U : List Pp) : WayOk U [] [] := ⟨rfl, fun _ _ _ => by simp⟩
theorem WayOk.more {U : List Pp} {way : List Nat} {wayN : List (List UInt8)} (h : WayOk U way wayN) (hU : UOk U) {j : Nat} {p : Pp} (hj : U[j]? = some p) : WayOk U (way ++ [j]) (wayN ++ [p.1]) := by
  refine ⟨by rw [List.length_append, List.length_append, h.len]; rfl, fun i q hi => ?_⟩
  rw [List.mem_append, List.mem_append, h.mem i q hi, List.mem_singleton, List.mem_singleton]
  constructor
  · rintro (h1 | rfl)
    · exact .inl h1
    · rw [hi] at hj; cases hj; exact .inr rfl
  · rintro (h1 | h1)
    · exact .inl h1
    · exact .inr (nodup_at hU.nodup hi hj h1)
theorem done_some {U D : List Pp} {j : Nat} {p : Pp} {v : List UInt8} (hj : U[j]? = some p) (h : getM D p.1 = some v) : ∃ q, doneF U D j = some q ∧ D[q]? = some (p.1, v) := by
  unfold getM at h
  rw [Option.map_eq_some_iff] at h
  obtain ⟨x, h1, h2⟩ := h
  obtain ⟨h4, i, h5, h6, h7⟩ := List.find?_eq_some_iff_getElem.1 h1
  refine ⟨i, ?_, ?_⟩
  · unfold doneF
    rw [hj]
    show D.findIdx? _ = some i
    rw [List.findIdx?_eq_some_iff_getElem]
    exact ⟨h5, by rw [h6]; exact h4, fun j hj => by simpa using h7 j hj⟩
  · rw [List.getElem?_eq_getElem h5, h6]
    have : x.1 = p.1 := by simpa using h4
    obtain ⟨a, b⟩ := x
    dsimp only at this h2
    rw [this, h2]
theorem done_none {U D : List Pp} {j : Nat} {p : Pp} (hj : U[j]? = some p) (h : getM D p.1 = none) : doneF U D j = none := by
  unfold doneF
  rw [hj]
  show D.findIdx? _ = none
  rw [List.findIdx?_eq_none_iff]
  intro x hx
  rw [beq_eq_false_iff_ne]
  exact fun e => get_none.1 h (List.mem_map.2 ⟨x, hx, e⟩)
theorem done_more {U D : List Pp} (hU : UOk U) {j : Nat} {p : Pp} {v : List UInt8} (hj : U[j]? = some p) (h : getM D p.1 = none) : ∀ i, putI (doneF U D) j D.length i = doneF U (D ++ [(p.1, v)]) i := by
  intro i
  unfold putI
  by_cases e : j = i
  · subst e
    rw [if_pos rfl]
    unfold doneF
    rw [hj]
    show some D.length = List.findIdx? _ (D ++ [(p.1, v)])
    have h0 : List.findIdx? (fun q => q.1 == p.1) D = none := by
      have := done_none hj h
      unfold doneF at this
      rw [hj] at this
      exact this
    rw [List.findIdx?_append, h0]
    simp [List.findIdx?_cons]
  · rw [if_neg e]
    unfold doneF
    cases hi : U[i]? with
    | none => rfl
    | some q =>
      show List.findIdx? _ D = List.findIdx? _ (D ++ [(p.1, v)])
      rw [List.findIdx?_append]
      have hne : (p.1 == q.1) = false := by
        rw [beq_eq_false_iff_ne]
        exact fun he => e (nodup_at hU.nodup hj hi he)
      have : List.findIdx? (fun x : Pp => x.1 == q.1) [(p.1, v)] = none := by
        rw [List.findIdx?_eq_none_iff]
        intro x hx
        rw [List.mem_singleton.1 hx]
        exact hne
      rw [this]
      simp
theorem get_at {U : List Pp} (hU : UOk U) {j : Nat} {p : Pp} (hj : U[j]? = some p) : getM U p.1 = some p.2 := by
  have hm : p ∈ U := List.mem_of_getElem? hj
  have h1 : p.1 ∈ U.map (·.1) := List.mem_map.2 ⟨p, hm, rfl⟩
  cases hg : getM U p.1 with
  | none => exact absurd h1 (get_none.1 hg)
  | some v =>
    have h2 := get_mem hg
    obtain ⟨i, hi⟩ := List.getElem?_of_mem h2
    have := nodup_at hU.nodup hi hj rfl
    subst this
    have h3 := hi.symm.trans hj
    simp only [Option.some.injEq] at h3
    exact congrArg (fun q : Pp => some q.2) h3
/-- append of one cell, and where the row lies then -/
theorem app1at {P : Program} {ops : Array Oper} {rest : List Oper} {o : Oper} {a : Act} {Q : Exit → Act → World → Prop} {w0 : World} {u : Value} (hgd : o.guard = none) (s x : Operand) (t e : TypeId)
    (ho : o.op = .call { callee := .builtin .append, args := #[s, x], argTypes := #[t, t] }) (z : Value) (bytes base n : Nat)
    (ht : P.underlying t = some (.slice e)) (hinfo : (P.info? e).map (fun i => (i.zero, i.size, i.bytes)) = some (some z, 1, bytes)) (hzs : z.cells.size = 1)
    (v : Value) (xs : List Value) (hs : a.eval s = v) (hown : w0.ownsRow base e 1 v n xs) (hx : a.eval x = .slice (some ⟨w0.heap.size, 0, none⟩) 1 1) (h1 : u.oneCell' = true)
    (h63 : n + 1 ≤ 281474976710656) (hbytes : (n + 1) * bytes ≤ 140737488355328) (hbase : base ≤ w0.heap.size)
    (h : ∀ v' w', w'.ownsRow base e 1 v' (n + 1) (xs ++ [u]) → w0.grownBy w' v.ownBlock → (v'.ownBlock = v.ownBlock ∨ ∀ k, v'.ownBlock = some k → w0.heap.size ≤ k) → wpList P ops Q rest (a.put o.dst v') w') :
    wpList P ops Q (o :: rest) a (w0.alloc (.cells #[u] e)) := by
  obtain ⟨i, hi, hz, hsize, hby⟩ := info_parts hinfo
  refine wpList_append_own_at _ hgd s x t ho base e i z 1 bytes ht hi hz hsize hby hzs (by omega) v n xs hs (hown.alloc _) ⟨w0.heap.size, 0, none⟩ 1 1 [u] hx rfl (cell_one_new w0 u e) (by simpa using h1) (by simp only [maxLen]; omega) hbytes (by simp; omega) ?_
  intro v' w' ho' hg _ hl
  have hg0 : w0.grownBy w' v.ownBlock := ⟨hg.os, hg.tape, hg.output, Nat.le_trans (by simp) hg.size, fun k hk hne => (hg.block k (by simp; omega) hne).trans (Below.heap_alloc _ _ _ hk)⟩
  refine h v' w' ho' hg0 ?_
  rcases hl with hl | hl
  · exact .inl hl
  · refine .inr fun k hk => ?_
    rw [hl] at hk
    simp at hk
    omega
section
variable {S : Tb} {U D : List Pp} {vv vw : Value} {X : Nat → Prop} {w w' : World} {way : List Nat}
theorem StV.ne_way (h : StV S U D vv w) {base n : Nat} {xs : List Value} (ho : w.ownsRow base 3 1 vw n xs) {b : Nat} (hb : vw.ownBlock = some b) : b < w.heap.size ∧ b ≠ S.T ∧ b ≠ S.Dn ∧ vv.ownBlock ≠ some b := by
  obtain ⟨cs, h1, _⟩ := own_ty ho hb
  refine ⟨(Array.getElem?_eq_some_iff.1 h1).1, fun e => ?_, fun e => ?_, fun e => ?_⟩
  · rw [e, h.tab] at h1; cases h1
  · obtain ⟨es, c, h2⟩ := h.done.mapped
    rw [e, h2] at h1; cases h1
  · obtain ⟨cs2, h2, _⟩ := own_ty h.vals e
    rw [h2] at h1; cases h1
/-- one more place is met -/
theorem St.wayed (h : St S U D X w) (hy : Wy S X way vw w) (hg : w.grownBy w' vw.ownBlock) (Z : Nat → Prop) (hZ : ∀ k, Z k → X k ∨ vw.ownBlock = some k) : St S U D Z w' := by
  obtain ⟨vv, h1, h2⟩ := h
  have hh : ∀ {k : Nat} {o : Obj}, w.heap[k]? = some o → (∀ cs, o ≠ .cells cs 3 (0, 0)) → w'.heap[k]? = some o := fun {k o} hk hn => (hg.block k (Array.getElem?_eq_some_iff.1 hk).1 (fun e => by
    obtain ⟨cs, h3, _⟩ := own_ty hy.1 e.symm
    rw [h3] at hk
    cases hk
    exact hn _ rfl)).trans hk
  refine ⟨vv, h1.frame (fun _ h => hh h (by intro _ e; cases e)) (fun _ _ _ h => hh h (by intro _ e; cases e)) (fun _ _ h => hh h (by intro _ e; cases e)) (fun _ _ _ h => hh h (by intro _ e; cases e)) ?_, fun k hk => ?_⟩
  · refine hg.block _ (World.block_lt_of_cell? w _ h1.mx) (fun e => ?_)
    obtain ⟨cs, h3, h4⟩ := own_ty hy.1 e.symm
    have := h1.mxB
    omega
  · rcases hZ k hk with hk | hk
    · exact ⟨Nat.lt_of_lt_of_le (h2 k hk).1 hg.size, (h2 k hk).2⟩
    · have := h1.ne_way hy.1 hk
      exact ⟨Nat.lt_of_lt_of_le this.1 hg.size, this.2⟩
theorem Kp.wayed (hy : Wy S X way vw w) (hg : w.grownBy w' vw.ownBlock) : Kp S X w w' := by
  refine ⟨hg.os, hg.tape, hg.output, hg.size, fun k hk hl => hg.block k hl (fun e => hy.2 k hk e.symm), fun k hk hl => hg.block k hl (fun e => ?_), fun k cs t fz hk h1 h2 h3 => (hg.block k (Array.getElem?_eq_some_iff.1 hk).1 (fun e => ?_)).trans hk⟩
  · obtain ⟨cs, h3, h4⟩ := own_ty hy.1 e.symm
    omega
  · obtain ⟨cs2, h4, _⟩ := own_ty hy.1 e.symm
    rw [h4] at hk
    cases hk
    exact h3 rfl
/-- the shorter row is as it was -/
theorem way_back {base n n' : Nat} {w3 w4 : World} {v v' : Value} {xs ys : List Value} (h1 : w3.ownsRow base 3 1 v n xs) (h2 : w3.ownsRow base 3 1 v' n' (xs ++ ys)) (h4 : w4.ownsRow base 3 1 v' n' (xs ++ ys))
    (hk : ∀ k, v.ownBlock = some k → v'.ownBlock ≠ some k → w4.heap[k]? = w3.heap[k]?) : w4.ownsRow base 3 1 v n xs := by
  refine ⟨h1.1, ?_⟩
  rcases h1.2 with hn | ⟨g, cap, cur, rfl, hb, hg, hnc, hcm, hcs, ht⟩
  · exact .inl hn
  · refine .inr ?_
    by_cases he : v'.ownBlock = some g
    · rcases h2.2 with ⟨rfl, _⟩ | ⟨g2, cap2, cur2, rfl, _, hg2, _, _, hcs2, _⟩
      · cases he
      · have : g2 = g := by simpa [Value.ownBlock] using he
        subst this
        rw [hg2] at hg
        simp only [Option.some.injEq, Obj.cells.injEq, and_true] at hg
        subst hg
        rcases h4.2 with ⟨hx, _⟩ | ⟨g4, cap4, cur4, hx, _, hg4, _, _, hcs4, ht4⟩
        · cases hx
        · simp only [Value.slice.injEq, Option.some.injEq, Addr.mk.injEq, and_true] at hx
          obtain ⟨rfl, _, rfl⟩ := hx
          refine ⟨g2, cap, cur4, rfl, hb, hg4, hnc, hcm, by omega, ?_⟩
          have hln : xs.length = n * 1 := h1.1
          have hlen : n * 1 ≤ n' * 1 := by have := h2.1; rw [List.length_append] at this; omega
          have := congrArg (List.take (n * 1)) ht4
          rw [List.take_take, Nat.min_eq_left hlen] at this
          rw [this, List.take_append_of_le_length (by omega), List.take_of_length_le (by omega)]
    · exact ⟨g, cap, cur, rfl, hb, (hk g rfl he).trans hg, hnc, hcm, hcs, ht⟩
theorem final8 (hU : UOk U) {w4 w5 w6 : World} {j : Nat} {p : Pp} {v : List UInt8} {v' : Value} (hv : StV S U D vv w4) (hX : ∀ k, X k → k < w4.heap.size ∧ k ≠ S.T ∧ k ≠ S.Dn ∧ vv.ownBlock ≠ some k) (hwy : Wy S X way vw w4) (hj : U[j]? = some p) (hn : getM D p.1 = none)
    (h5 : PlacesI w5 S.Dn (D.length + 1) (putI (doneF U D) j D.length)) (hg5 : w4.grownBy w5 (some S.Dn))
    (ho : w6.ownsRow S.B 9 1 v' (D.length + 1) (strVs (D.map (·.2)) ++ [.string (str v)])) (hg6 : w5.grownBy w6 vv.ownBlock) (hloc : v'.ownBlock = vv.ownBlock ∨ ∀ k, v'.ownBlock = some k → w5.heap.size ≤ k) (w8 : World)
    (hw8 : w8 = (w6.setCell ⟨S.T, 3, none⟩ v').setCell ⟨S.T, 4, none⟩ (.int .i64 ((D.length : Int) + 1))) :
    St S U (D ++ [(p.1, v)]) X w8 ∧ Wy S X way vw w8 ∧ Kp S X w4 w8 := by
  have hlt : ∀ {k : Nat} {o : Obj}, w4.heap[k]? = some o → k < w4.heap.size := fun h => (Array.getElem?_eq_some_iff.1 h).1
  have h46 : ∀ k, k < w4.heap.size → k ≠ S.Dn → vv.ownBlock ≠ some k → w6.heap[k]? = w4.heap[k]? := fun k hk h1 h2 =>
    (hg6.block k (Nat.lt_of_lt_of_le hk hg5.size) (fun e => h2 e.symm)).trans (hg5.block k hk (fun e => h1 (by simpa using e)))
  have h68 : ∀ k, k ≠ S.T → w8.heap[k]? = w6.heap[k]? := fun k hk => by
    rw [hw8, heap_setCell_other _ _ k _ hk, heap_setCell_other _ _ k _ hk]
  have hs8 : w8.heap.size = w6.heap.size := by rw [hw8]; simp
  have h48 : ∀ k, k < w4.heap.size → k ≠ S.T → k ≠ S.Dn → vv.ownBlock ≠ some k → w8.heap[k]? = w4.heap[k]? := fun k hk h0 h1 h2 => (h68 k h0).trans (h46 k hk h1 h2)
  obtain ⟨es, ck, hmap⟩ := hv.done.mapped
  obtain ⟨esN, ckN, hmapN⟩ := hv.number.mapped
  have hTD : S.T ≠ S.Dn := fun e => by have := hv.tab; rw [e, hmap] at this; cases this
  have hTN : S.N ≠ S.T := fun e => by have := hv.tab; rw [← e, hmapN] at this; cases this
  have hnv : ∀ {k : Nat} {o : Obj}, w4.heap[k]? = some o → (∀ cs, o ≠ .cells cs 9 (0, 0)) → vv.ownBlock ≠ some k := fun {k o} hk hne e => by
    obtain ⟨cs, h1, _⟩ := own_ty hv.vals e
    rw [h1] at hk; cases hk; exact hne _ rfl
  have hT6 : w6.heap[S.T]? = some (.cells #[S.vp, .map (some S.N), .map (some S.Dn), vv, .int .i64 (D.length : Int)] 75 (0, 0)) := (h46 _ (hlt hv.tab) hTD (hnv hv.tab (by intro _ e; cases e))).trans hv.tab
  have hT8 : w8.heap[S.T]? = some (.cells #[S.vp, .map (some S.N), .map (some S.Dn), v', .int .i64 ((D.length : Int) + 1)] 75 (0, 0)) := by
    rw [hw8]
    exact heap_setCell_same _ S.T 4 _ _ _ (heap_setCell_same _ S.T 3 _ _ _ hT6)
  have hD8 : w8.heap[S.Dn]? = w5.heap[S.Dn]? := (h68 _ (Ne.symm hTD)).trans (hg6.block _ (Nat.lt_of_lt_of_le (hlt hmap) hg5.size) (fun e => hnv hmap (by intro _ e; cases e) e.symm))
  have hv8 : ∀ cs k, v'.ownBlock = some k → w6.heap[k]? = some (.cells cs 9 (0, 0)) → w8.heap[k]? = some (.cells cs 9 (0, 0)) := fun cs k _ hk => by
    rw [h68 k (fun e => by rw [e, hT6] at hk; cases hk)]; exact hk
  have hkeep : ∀ (k : Nat) (cs : Array Value) (t : TypeId) (fz : Nat × Nat), w4.heap[k]? = some (Obj.cells cs t fz) → t ≠ 75 → t ≠ 9 → w8.heap[k]? = some (Obj.cells cs t fz) := fun k cs t fz hk h1 h2 =>
    (h48 k (hlt hk) (fun e => by rw [e, hv.tab] at hk; cases hk; exact h1 rfl) (fun e => by rw [e, hmap] at hk; cases hk) (hnv hk (by intro _ e; cases e; exact h2 rfl))).trans hk
  have hg : w8.heap[0]? = w4.heap[0]? := h48 _ (World.block_lt_of_cell? w4 _ hv.mx) (by have := hv.low; have := hv.mxB; omega) (by have := hv.low; have := hv.mxB; omega) (fun e => by
    obtain ⟨cs, h1, h2⟩ := own_ty hv.vals e
    have := hv.mxB
    omega)
  refine ⟨⟨v', ⟨?_, own_frame hv.props fun k cs _ hk => hkeep k cs _ _ hk (by decide) (by decide), places_frame hv.number (h48 _ (hlt hmapN) hTN hv.ne (hnv hmapN (by intro _ e; cases e))), ?_, ?_, hv.ne, hv.low, ?_, hv.mxB⟩, fun k hk => ?_⟩, ⟨own_frame hwy.1 fun k cs _ hk => hkeep k cs _ _ hk (by decide) (by decide), hwy.2⟩, ⟨?_, ?_, ?_, ?_, fun k hk hl => h48 k hl (hX k hk).2.1 (hX k hk).2.2.1 (hX k hk).2.2.2, fun k hk hl => h48 k hl (by have := hv.low; omega) (by have := hv.low; omega) (fun e => by obtain ⟨cs, h1, h2⟩ := own_ty hv.vals e; omega), fun k cs t fz hk h1 h2 _ => hkeep k cs t fz hk h1 h2⟩⟩
  · rw [hT8, List.length_append, List.length_singleton]; rfl
  · rw [List.length_append, List.length_singleton]
    exact placesI_frame (h5.same (done_more hU hj hn)) hD8
  · rw [List.length_append, List.length_singleton, List.map_append]
    unfold strVs at ho ⊢
    rw [List.map_append]
    exact own_frame ho fun k cs hb hk => hv8 cs k hb hk
  · have := hv.mx
    unfold World.cell? at this ⊢
    rw [hg]; exact this
  · refine ⟨by rw [hs8]; exact Nat.lt_of_lt_of_le (hX k hk).1 (Nat.le_trans hg5.size hg6.size), (hX k hk).2.1, (hX k hk).2.2.1, fun e => ?_⟩
    rcases hloc with hl | hl
    · rw [hl] at e; exact (hX k hk).2.2.2 e
    · have := hl k e; have := (hX k hk).1; have := hg5.size; omega
  · rw [hw8]; exact hg6.os.trans hg5.os
  · rw [hw8]; exact hg6.tape.trans hg5.tape
  · rw [hw8]; exact hg6.output.trans hg5.output
  · rw [hs8]; exact Nat.le_trans hg5.size hg6.size
end
end Go.Proofs.Ythfholnnkdoagaa
