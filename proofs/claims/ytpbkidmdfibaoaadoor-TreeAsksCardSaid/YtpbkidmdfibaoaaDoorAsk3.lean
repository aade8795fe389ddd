/-
  Layer 3: what a tree says: rows of its elements copied, Attr, Kids, Text. Own work.
-/
import Derived.Test.YtpbkidmdfibaoaaDoorSameN3
import Derived.Test.YtpbkidmdfibaoaaDoorGro3
import Derived.Test.YtpbkidmdfibaoaaDoorLts3
import Derived.Deep.AppendSrc
import Derived.Deep.Upon
import Derived.ArgAppend
import Derived.Lib.BufferMore
import Derived.Test.YtpbkidmdfibaoaaDoorTrim1
import Derived.Test.YtpbkidmdfibaoaaDoorBuilder
import Derived.Laws.Tables
namespace Go.Proofs.YtpbkidmdfibaoaaDoor
set_option linter.unusedVariables false
set_option linter.unusedSimpArgs false
open Go.RowKit

def Raw (w : World) (sz : Nat) (v : Value) (n : Nat) (xs : List Value) : Prop :=
  xs.length = n * sz ∧ ((v = .slice none 0 0 ∧ n = 0) ∨ ∃ a cap, v = .slice (some a) n cap ∧ n ≤ cap ∧ cap ≤ 9223372036854775807 ∧ ∀ (j : Nat) u, xs[j]? = some u → w.cell? (a.add j) = some u)
theorem Raw.below {w w' : World} {sz n B : Nat} {v : Value} {xs : List Value} (h : Raw w sz v n xs) (hb : Below B w w') (hB : w.heap.size ≤ B) : Raw w' sz v n xs := by
  obtain ⟨h0, h | ⟨a, cap, h1, h2, h3, h4⟩⟩ := h
  · exact ⟨h0, .inl h⟩
  · exact ⟨h0, .inr ⟨a, cap, h1, h2, h3, fun j u hu => (hb.cell (Nat.lt_of_lt_of_le (World.block_lt_of_cell? w _ (h4 j u hu)) hB)).trans (h4 j u hu)⟩⟩
/-- the row of a copy -/
theorem run_copy {t e ty : TypeId} {z : Value} {size bytes : Nat} (ht : Tryd.prog.underlying t = some (.slice e)) (hinfo : (Tryd.prog.info? e).map (fun i => (i.zero, i.size, i.bytes)) = some (some z, size, bytes)) (hzs : z.cells.size = size) (hsz : 0 < size)
    (w : World) (v : Value) (n : Nat) (xs : List Value) (h : Raw w size v n xs) (hn : n ≤ 1000000) (hby : n * bytes ≤ 140737488355328) :
    ∃ v' w', (Builtin.append_ #[t, t] ty #[.slice (some ⟨w.heap.size, 0, none⟩) 0 0, v]).run Tryd.prog (w.alloc (.cells #[] e)) = .ok v' w' ∧ w'.ownsRow w.heap.size e size v' n xs ∧ Below w.heap.size w w' := by
  obtain ⟨i, hi, hz, hs, hb⟩ := info_parts hinfo
  have hba : Below w.heap.size w (w.alloc (.cells #[] e)) := (Below.refl _ _).alloc (Nat.le_refl _) _
  have hnew := heap_alloc_new w (.cells #[] e)
  have hr := h.below hba (Nat.le_refl _)
  by_cases h0 : n = 0
  · subst h0
    have hx : xs = [] := List.eq_nil_of_length_eq_zero (by have := h.1; omega)
    subst hx
    have hsrc : Src Tryd.prog i.size t v 0 [] (w.alloc (.cells #[] e)) := by
      rcases hr.2 with ⟨rfl, _⟩ | ⟨a, cap, rfl, _⟩
      · exact Src.ofNil _ ht 0
      · exact Src.ofSlice _ ht a 0 cap [] (by simp) (by simp) (by simp)
    refine ⟨_, _, run_append_nothing _ t t ty e i ht hi (some ⟨w.heap.size, 0, none⟩) 0 0 (Nat.le_refl _) v hsrc, ⟨by simp, .inr ⟨w.heap.size, 0, #[], rfl, Nat.le_refl _, hnew, Nat.le_refl _, by simp [maxLen], by simp, by simp⟩⟩, hba⟩
  · rcases hr.2 with ⟨_, hq⟩ | ⟨a, cap, rfl, h2, h3, h4⟩
    · exact absurd hq h0
    obtain ⟨v', w', hrun, hown, hg⟩ := run_append_arg_grows (w := w.alloc (.cells #[] e)) t ty e i z size bytes ht hi hz hs hb hzs hsz ⟨w.heap.size, 0, none⟩ 0 0 [] (by simp) (by simp) a n cap xs (by simpa using hr.1) h4 (by omega) (by simp only [maxLen]; omega) (by simpa using hby)
    rw [Nat.zero_add, List.nil_append] at hown
    have hgb : Below w.heap.size w w' := hba.trans (Below.mono ⟨hg.os, hg.tape, hg.output, hg.size, fun k hk => hg.block k hk (by simp)⟩ hba.size)
    refine ⟨v', w', hrun, ⟨hown.1, ?_⟩, hgb⟩
    rcases hown.2 with h5 | ⟨g, cap', cur, h5, h6, h7⟩
    · exact .inl h5
    · exact .inr ⟨g, cap', cur, h5, by have := hba.size; omega, h7⟩
theorem wpList_copy {ops : Array Oper} {rest : List Oper} {o : Oper} {a : Act} {Q : Exit → Act → World → Prop} (hgd : o.guard = none) (s x : Operand) {t e : TypeId} {z : Value} {size bytes : Nat}
    (ho : o.op = .call { callee := .builtin .append, args := #[s, x], argTypes := #[t, t] }) (ht : Tryd.prog.underlying t = some (.slice e)) (hinfo : (Tryd.prog.info? e).map (fun i => (i.zero, i.size, i.bytes)) = some (some z, size, bytes)) (hzs : z.cells.size = size) (hsz : 0 < size)
    (w : World) (v : Value) (n : Nat) (xs : List Value) (hs : a.eval s = .slice (some ⟨w.heap.size, 0, none⟩) 0 0) (hx : a.eval x = v) (h : Raw w size v n xs) (hn : n ≤ 1000000) (hby : n * bytes ≤ 140737488355328)
    (hk : ∀ v' w', w'.ownsRow w.heap.size e size v' n xs → Below w.heap.size w w' → wpList Tryd.prog ops Q rest (a.put o.dst v') w') : wpList Tryd.prog ops Q (o :: rest) a (w.alloc (.cells #[] e)) :=
  wpList_plain hgd fun _ hK => by
    obtain ⟨v', w', hr, hown, hb⟩ := run_copy (ty := o.type) ht hinfo hzs hsz w v n xs h hn hby
    unfold Oper.wp execOp
    simp only [ho, resolve, invoke, builtin, Sem.run_bind, Sem.run_pure, Result.andThen_ok, List.map_toArray, List.map_cons, List.map_nil, hs, hx, hr]
    exact hK _ _ (hk v' w' hown hb)
theorem RdAs.raw {w : World} {v : Value} {l : List At2} (h : RdAs w v l) : Raw w 2 v l.length (rowAs l) := by
  refine ⟨rowAs_len l, ?_⟩
  rcases h with ⟨h1, h2⟩ | ⟨a, cap, h1, h2, h3, h4⟩
  · exact .inl ⟨h1, by rw [h2]; rfl⟩
  · refine .inr ⟨a, cap, h1, h2, h3, fun j u hu => ?_⟩
    have hj : j < l.length * 2 := by rw [← rowAs_len]; exact (List.getElem?_eq_some_iff.1 hu).1
    obtain ⟨x, hx⟩ : ∃ x, l[j / 2]? = some x := ⟨_, List.getElem?_eq_getElem (by omega)⟩
    have hp := h4 (j / 2) x hx
    rcases Nat.mod_two_eq_zero_or_one j with hm | hm
    · have e : j = j / 2 * 2 + 0 := by omega
      rw [e, rowAs_at l _ 0 x hx (by omega)] at hu
      simp only [atL, List.getElem?_cons_zero, Option.some.injEq] at hu
      subst hu
      rw [show j = j / 2 * 2 by omega]; exact hp.1
    · have e : j = j / 2 * 2 + 1 := by omega
      rw [e, rowAs_at l _ 1 x hx (by omega)] at hu
      simp only [atL, List.getElem?_cons_succ, List.getElem?_cons_zero, Option.some.injEq] at hu
      subst hu
      have h2 := hp.2
      rw [← add_pos3 _ 1 (by decide), Go.Deep.add_add, ← e] at h2
      exact h2
/-- the kids of a tree, with the values of their cells -/
theorem NdV.kds {w : World} {F : Nat → Prop} {x : Tr} {va vk : Value} (h : NdV w F x va vk) : ∃ kd : List Kd, kd.map (·.x) = x.ks ∧ kd.length = x.ks.length ∧ Raw w 4 vk kd.length (rowN kd) ∧ ∀ k ∈ kd, NdV w F k.x k.va k.vk := by
  cases h with
  | leaf _ _ => exact ⟨[], rfl, rfl, ⟨rfl, .inl ⟨rfl, rfl⟩⟩, fun k hk => by simp at hk⟩
  | @kids n ats ks t va a cap ka kk ha hq hf hc hm hcell hk =>
    have hl : (ks.mapIdx fun i x => (⟨x, ka i, kk i⟩ : Kd)).length = ks.length := by simp
    have hat : ∀ (i : Nat) k, (ks.mapIdx fun i x => (⟨x, ka i, kk i⟩ : Kd))[i]? = some k → ∃ x, ks[i]? = some x ∧ k = ⟨x, ka i, kk i⟩ := fun i k hk => by
      rw [List.getElem?_mapIdx] at hk
      cases hx : ks[i]? with
      | none => rw [hx] at hk; cases hk
      | some x => rw [hx] at hk; cases hk; exact ⟨x, rfl, rfl⟩
    refine ⟨ks.mapIdx fun i x => ⟨x, ka i, kk i⟩, ?_, hl, ⟨rowN_len _, .inr ⟨a, cap, by rw [hl], by rw [hl]; exact hc, hm, fun j u hu => ?_⟩⟩, fun k hk' => ?_⟩
    · apply List.ext_getElem? 
      intro i
      simp only [List.getElem?_map, List.getElem?_mapIdx, Tr.ks, Option.map_map]
      cases ks[i]? <;> rfl
    · have hj : j < ks.length * 4 := by have := (List.getElem?_eq_some_iff.1 hu).1; rw [rowN_len, hl] at this; exact this
      obtain ⟨x, hx⟩ : ∃ x, ks[j / 4]? = some x := ⟨_, List.getElem?_eq_getElem (by omega)⟩
      have hkd : (ks.mapIdx fun i x => (⟨x, ka i, kk i⟩ : Kd))[j / 4]? = some ⟨x, ka (j / 4), kk (j / 4)⟩ := by rw [List.getElem?_mapIdx, hx]; rfl
      have e : j = j / 4 * 4 + j % 4 := by omega
      rw [e, rowN_at _ _ _ _ hkd (by omega)] at hu
      rw [e]
      exact hcell _ x _ u hx hu
    · obtain ⟨i, hi⟩ := List.getElem?_of_mem hk'
      obtain ⟨x, hx, rfl⟩ := hat i k hi
      exact hk i x hx
def CloP (w : World) (e sz n : Nat) (xs : List Value) (en : Ending) (w' : World) : Prop := ∃ v, en = .returned v ∧ w'.ownsRow w.heap.size e sz v n xs ∧ Below w.heap.size w w'
theorem CloneA_any (v : Value) (n : Nat) (xs : List Value) (w : World) (h : Raw w 2 v n xs) (hn : n ≤ 100000) :
    Calls Tryd.prog 52 #[v] w (CloP w 36 2 n xs) := by
  have HH := Lib.hid h
  rcases h.2 with ⟨rfl, rfl⟩ | ⟨a, cap, rfl, h2, h3, _⟩
  · have hx : xs = [] := List.eq_nil_of_length_eq_zero (by have := h.1; omega)
    subst hx
    clear h
    have hnil := fun w => Lib.run_eql_slice_nil_nil (P := Tryd.prog) w 0 0 Tryd.underlying22
    go_enter Tryd.func52, Tryd.ntmps52
    go_wp2
    go_ret
    exact ⟨_, rfl, World.ownsRow_nil _ _ _ _, Below.refl _ _⟩
  · clear h
    have hnil := fun w => Lib.run_eql_slice_some_nil (P := Tryd.prog) w a n cap Tryd.underlying22
    go_enter Tryd.func52, Tryd.ntmps52
    go_wp2_with (at_builtin
                 refine wpList_copy rfl _ _ rfl Tryd.underlying22 attr_info rfl (by decide) w (.slice (some a) n cap) n xs rfl rfl HH.out (by omega) (by omega) ?_)
    intro v2 w2 hown hb2
    have HO := Lib.hid hown
    have HB := Lib.hid hb2
    clear hown hb2
    go_wp2
    go_ret
    exact ⟨_, rfl, HO.out, HB.out⟩
theorem CloneN_any (v : Value) (n : Nat) (xs : List Value) (w : World) (h : Raw w 4 v n xs) (hn : n ≤ 100000) :
    Calls Tryd.prog 53 #[v] w (CloP w 25 4 n xs) := by
  have HH := Lib.hid h
  rcases h.2 with ⟨rfl, rfl⟩ | ⟨a, cap, rfl, h2, h3, _⟩
  · have hx : xs = [] := List.eq_nil_of_length_eq_zero (by have := h.1; omega)
    subst hx
    clear h
    have hnil := fun w => Lib.run_eql_slice_nil_nil (P := Tryd.prog) w 0 0 Tryd.underlying23
    go_enter Tryd.func53, Tryd.ntmps53
    go_wp2
    go_ret
    exact ⟨_, rfl, World.ownsRow_nil _ _ _ _, Below.refl _ _⟩
  · clear h
    have hnil := fun w => Lib.run_eql_slice_some_nil (P := Tryd.prog) w a n cap Tryd.underlying23
    go_enter Tryd.func53, Tryd.ntmps53
    go_wp2_with (at_builtin
                 refine wpList_copy rfl _ _ rfl Tryd.underlying23 node_info rfl (by decide) w (.slice (some a) n cap) n xs rfl rfl HH.out (by omega) (by omega) ?_)
    intro v2 w2 hown hb2
    have HO := Lib.hid hown
    have HB := Lib.hid hb2
    clear hown hb2
    go_wp2
    go_ret
    exact ⟨_, rfl, HO.out, HB.out⟩

theorem addg0 (g j : Nat) : (⟨g, 0, none⟩ : Addr).add j = ⟨g, j, none⟩ := by unfold Addr.add; split <;> simp_all
theorem rowN_set : ∀ (l : List Kd) (i : Nat) (k : Kd), i < l.length → rowN (l.set i k) = ((((rowN l).set (i * 4) (.string (str k.x.n))).set (i * 4 + 1) k.va).set (i * 4 + 2) k.vk).set (i * 4 + 3) (.string (str k.x.t))
  | [], i, k, h => by simp at h
  | q :: l, 0, k, h => by simp [rowN, kdL, ndL]
  | q :: l, i + 1, k, h => by
    have := rowN_set l i k (by simpa using h)
    simp only [rowN, List.set_cons_succ, List.flatMap_cons] at this ⊢
    rw [this]
    have e : ∀ c, (i + 1) * 4 + c = (kdL q).length + (i * 4 + c) := fun c => by simp [kdL, ndL]; omega
    have e0 : (i + 1) * 4 = (kdL q).length + i * 4 := by simp [kdL, ndL]; omega
    rw [e 1, e 2, e 3, e0]
    have hs : ∀ (m : List Value) (n : Nat) (u : Value), (kdL q ++ m).set ((kdL q).length + n) u = kdL q ++ m.set n u := fun m n u => by
      rw [List.set_append_right _ _ (by omega)]; congr 2; omega
    rw [hs, hs, hs, hs]
/-- k of the kids have been copied; w5: the world ahead of the loop -/
structure CpL (w0 w5 : World) (base : Nat) (vk2 : Value) (ks : List Tr) (k : Nat) (kds : List Kd) (w : World) : Prop where
  mv : Mvd vk2.ownBlock.toList w5 w
  own : w.ownsRow base 25 4 vk2 kds.length (rowN kds)
  xs : kds.map (·.x) = ks
  old : ∀ (j : Nat) q, k ≤ j → kds[j]? = some q → NdV w0 (allF w0) q.x q.va q.vk
  new : ∀ (j : Nat) q, j < k → kds[j]? = some q → NdV w (fun b => w5.heap.size ≤ b ∧ b < w.heap.size) q.x q.va q.vk
theorem CpL.step {w0 w5 w w6 : World} {base g k n c : Nat} {ks : List Tr} {kds : List Kd} {q : Kd} {va vk : Value} (h : CpL w0 w5 base (.slice (some ⟨g, 0, none⟩) n c) ks k kds w) (hg : g < w5.heap.size) (hb : Below w.heap.size w w6) (hq : kds[k]? = some q)
    (hn : NdV w6 (fun b => w.heap.size ≤ b ∧ b < w6.heap.size) q.x va vk) :
    CpL w0 w5 base (.slice (some ⟨g, 0, none⟩) n c) ks (k + 1) (kds.set k ⟨q.x, va, vk⟩) ((((w6.setCell ⟨g, k * 4, none⟩ (.string (str q.x.n))).setCell ⟨g, k * 4 + 1, none⟩ va).setCell ⟨g, k * 4 + 2, none⟩ vk).setCell ⟨g, k * 4 + 3, none⟩ (.string (str q.x.t))) := by
  have hk : k < kds.length := (List.getElem?_eq_some_iff.1 hq).1
  have hn1 : n = kds.length := by
    rcases h.own.2 with ⟨h1, _⟩ | ⟨g', cap', cur, h1, _⟩
    · cases h1
    · cases h1; rfl
  subst hn1
  have hm6 : Mvd [] w w6 := Mvd.of_below hb
  have o6 := own_mvd h.own hm6 (by simp)
  have o7 := ((((o6.stored (k * 4) (.string (str q.x.n))).1.stored (k * 4 + 1) va).1.stored (k * 4 + 2) vk).1.stored (k * 4 + 3) (.string (str q.x.t))).1
  obtain ⟨w7, hw7⟩ : ∃ w7, w7 = (((w6.setCell ⟨g, k * 4, none⟩ (.string (str q.x.n))).setCell ⟨g, k * 4 + 1, none⟩ va).setCell ⟨g, k * 4 + 2, none⟩ vk).setCell ⟨g, k * 4 + 3, none⟩ (.string (str q.x.t)) := ⟨_, rfl⟩
  have hm7 : Mvd [g] w6 w7 := by
    rw [hw7]
    exact (((Mvd.of_set w6 g _ _).trans (Mvd.of_set _ g _ _)).trans (Mvd.of_set _ g _ _)).trans (Mvd.of_set _ g _ _)
  rw [← hw7] at o7 ⊢
  have h57 := h.mv.size
  refine ⟨(h.mv.trans (hm6.mono (by simp))).trans (hm7.mono (by simp [Value.ownBlock])), ?_, ?_, fun j p hj hp => ?_, fun j p hj hp => ?_⟩
  · rw [List.length_set, rowN_set _ _ _ hk]; exact o7
  · rw [← h.xs]
    apply List.ext_getElem?
    intro i
    simp only [List.getElem?_map, List.getElem?_set]
    by_cases hi : k = i
    · subst hi; rw [(List.getElem?_eq_some_iff.1 hq).2 |> fun h => (show kds[k]? = some q from hq)]; simp [hk]
    · simp [hi]
  · rw [List.getElem?_set_ne (by omega)] at hp
    exact h.old j p (by omega) hp
  · by_cases hjk : j = k
    · subst hjk
      rw [List.getElem?_set_self hk] at hp
      cases hp
      exact hn.frame (fun b hB => hm7.block b hB.2 (by simp; omega)) fun b hB => ⟨by omega, Nat.lt_of_lt_of_le hB.2 hm7.size⟩
    · rw [List.getElem?_set_ne (by omega)] at hp
      exact (h.new j p (by omega) hp).frame (fun b hB => (hm7.block b (Nat.lt_of_lt_of_le hB.2 hb.size) (by simp; omega)).trans (hb.block b hB.2)) fun b hB => ⟨hB.1, Nat.lt_of_lt_of_le hB.2 (Nat.le_trans hb.size hm7.size)⟩
def CopQ (w : World) (x : Tr) (e : Ending) (w' : World) : Prop := ∃ va vk, e = .returned (nodeV x va vk) ∧ NdV w' (fun b => w.heap.size ≤ b ∧ b < w'.heap.size) x va vk ∧ Below w.heap.size w w'
def CopS (x : Tr) : Prop := ∀ (va vk : Value) (w : World), NdV w (allF w) x va vk → Calls Tryd.prog 32 #[nodeV x va vk] w (CopQ w x)
theorem own_slice {w : World} {base e sz n : Nat} {v : Value} {xs : List Value} (h : w.ownsRow base e sz v n xs) : (v = .slice none 0 0 ∧ n = 0) ∨ ∃ g c, v = .slice (some ⟨g, 0, none⟩) n c ∧ base ≤ g ∧ g < w.heap.size := by
  rcases h.2 with ⟨h1, h2⟩ | ⟨g, cap, cur, h1, h2, h3, _⟩
  · exact .inl ⟨h1, h2⟩
  · exact .inr ⟨g, cap, h1, h2, (Array.getElem?_eq_some_iff.1 h3).1⟩
theorem own_shape {w : World} {base e sz n : Nat} {v : Value} {xs : List Value} (h : w.ownsRow base e sz v n xs) : ∃ p c, v = .slice p n c := by
  rcases own_slice h with ⟨rfl, rfl⟩ | ⟨g, c, rfl, _⟩
  · exact ⟨_, _, rfl⟩
  · exact ⟨_, _, rfl⟩
set_option maxRecDepth 100000 in
set_option maxHeartbeats 2000000 in
theorem cop_step (x : Tr) (hsm : x.sm) (hS : ∀ k ∈ x.ks, CopS k) : CopS x := by
  intro va vk w hx
  obtain ⟨kds, hkx, hkl, hraw, hkn⟩ := hx.kds
  rw [hkl] at hraw
  have hat := hx.ats
  obtain ⟨c1, c2, c3, c4, rfl, rfl⟩ := node_cells hx
  obtain ⟨n, ats, ks, t⟩ := x
  unfold nodeV
  simp only [Tr.n, Tr.ats, Tr.ks, Tr.t, Tr.sm] at hx hS hsm hkx hkl hat hraw ⊢
  obtain ⟨w1, hw1⟩ : ∃ w1, w1 = w.alloc (.cells #[.string (str n), .slice c1 ats.length c2, .slice c3 ks.length c4, .string (str t)] 25) := ⟨_, rfl⟩
  have hb1 : Below w.heap.size w w1 := by rw [hw1]; exact (Below.refl _ _).alloc (Nat.le_refl _) _
  have hs1 : w1.heap.size = w.heap.size + 1 := by rw [hw1]; simp
  have hX1 : w1.heap[w.heap.size]? = some (.cells #[.string (str n), .slice c1 ats.length c2, .slice c3 ks.length c4, .string (str t)] 25 (0, 0)) := by rw [hw1]; exact heap_alloc_new w _
  obtain ⟨w2, hw2⟩ : ∃ w2, w2 = w1.alloc (.cells #[.string ⟨#[]⟩, .slice none 0 0, .slice none 0 0, .string ⟨#[]⟩] 25) := ⟨_, rfl⟩
  have hb2 : Below w1.heap.size w1 w2 := by rw [hw2]; exact (Below.refl _ _).alloc (Nat.le_refl _) _
  have hs2 : w2.heap.size = w.heap.size + 2 := by rw [hw2]; simp [hs1]
  have hR2 : w2.heap[w.heap.size + 1]? = some (.cells #[.string ⟨#[]⟩, .slice none 0 0, .slice none 0 0, .string ⟨#[]⟩] 25 (0, 0)) := by rw [hw2, ← hs1]; exact heap_alloc_new w1 _
  have hX2 := (hb2.block w.heap.size (by omega)).trans hX1
  have hb02 : Below w.heap.size w w2 := hb1.trans (hb2.mono hb1.size)
  have HA := Lib.hid (CloneA_any _ _ _ w2 (hat.raw.below hb02 (Nat.le_refl _)) (by omega))
  have x1 : w2.cell? ⟨w.heap.size, 1, none⟩ = some (.slice c1 ats.length c2) := by rw [cell_of_row w2 _ 1 _ _ (0, 0) hX2]; rfl
  have HW1 := Lib.hid hw1
  have HW2 := Lib.hid hw2
  have HX2 := Lib.hid hX2
  have HR2 := Lib.hid hR2
  have HB02 := Lib.hid hb02
  have HRAW := Lib.hid hraw
  have HSM := Lib.hid hsm
  have HS := Lib.hid hS
  have HKX := Lib.hid hkx
  have HKL := Lib.hid hkl
  have HKN := Lib.hid hkn
  have HS1 := Lib.hid hs1
  have HS2 := Lib.hid hs2
  clear hx hat hw1 hb1 hX1 hw2 hb2 hR2 hX2 hb02 hraw hsm hS hkx hkl hkn
  go_enter Tryd.func32, Tryd.ntmps32
  go_upto_region 1 with fail
  rw [← HW1.out, ← HW2.out]
  clear hs1 hs2
  go_wp2_with fail
  refine HA.out.mono ?_
  rintro e w3 ⟨va2, rfl, hown3, hb3⟩
  obtain ⟨d1, d2, rfl⟩ := own_shape hown3
  have hs3 := hb3.size
  rw [HS2.out] at hs3
  have hX3 := (hb3.block w.heap.size (by rw [HS2.out]; omega)).trans HX2.out
  have y3 : w3.cell? ⟨w.heap.size, 1, none⟩ = some (.slice c1 ats.length c2) := by rw [cell_of_row w3 _ 1 _ _ (0, 0) hX3]; rfl
  have f3 : w3.frozen? ⟨w.heap.size, 1, none⟩ = false := frozen_of_row w3 _ 1 _ _ hX3
  have HSET := Lib.hid (heap_setCell_same w3 w.heap.size 1 _ _ (.slice d1 ats.length d2) hX3)
  have HR3 := Lib.hid ((Below.heap_setCell w3 ⟨w.heap.size, 1, none⟩ (.slice d1 ats.length d2) (w.heap.size + 1) (by simp)).trans ((hb3.block (w.heap.size + 1) (by rw [HS2.out]; omega)).trans HR2.out))
  have HB03 := Lib.hid ((HB02.out.trans (hb3.mono (by rw [HS2.out]; omega))).setCell (p := ⟨w.heap.size, 1, none⟩) (Nat.le_refl _) (.slice d1 ats.length d2))
  have HO3 := Lib.hid (ownsRow_setCell_below hown3 (a := ⟨w.heap.size, 1, none⟩) (by rw [HS2.out]; simp) (.slice d1 ats.length d2))
  have HS3 := Lib.hid (show w.heap.size + 2 ≤ (w3.setCell ⟨w.heap.size, 1, none⟩ (.slice d1 ats.length d2)).heap.size by simpa using hs3)
  clear hown3 hb3 hs3 hX3 HA x1
  go_upto_region 2 with fail
  clear f3 y3
  generalize w3.setCell ⟨w.heap.size, 1, none⟩ (.slice d1 ats.length d2) = w4 at HSET HR3 HB03 HO3 HS3 ⊢
  have hX4 : w4.heap[w.heap.size]? = some (.cells #[.string (str n), (.slice d1 ats.length d2), .slice c3 ks.length c4, .string (str t)] 25 (0, 0)) := HSET.out
  have HN := Lib.hid (CloneN_any _ _ _ w4 (HRAW.out.below HB03.out (Nat.le_refl _)) (by have := HSM.out.1; omega))
  have x2 : w4.cell? ⟨w.heap.size, 2, none⟩ = some (.slice c3 ks.length c4) := by rw [cell_of_row w4 _ 2 _ _ (0, 0) hX4]; rfl
  clear hX4
  go_wp2_with fail
  refine HN.out.mono ?_
  rintro e w5 ⟨vk2, rfl, hown5, hb5⟩
  obtain ⟨d3, d4, rfl⟩ := own_shape hown5
  have hs5 := hb5.size
  have hX5 := (hb5.block w.heap.size (by have := HS3.out; omega)).trans HSET.out
  have y5 : w5.cell? ⟨w.heap.size, 2, none⟩ = some (.slice c3 ks.length c4) := by rw [cell_of_row w5 _ 2 _ _ (0, 0) hX5]; rfl
  have f5 : w5.frozen? ⟨w.heap.size, 2, none⟩ = false := frozen_of_row w5 _ 2 _ _ hX5
  have HSET5 := Lib.hid (heap_setCell_same w5 w.heap.size 2 _ _ (.slice d3 ks.length d4) hX5)
  have HR5 := Lib.hid ((Below.heap_setCell w5 ⟨w.heap.size, 2, none⟩ (.slice d3 ks.length d4) (w.heap.size + 1) (by simp)).trans ((hb5.block (w.heap.size + 1) (by have := HS3.out; omega)).trans HR3.out))
  have HB05 := Lib.hid ((HB03.out.trans (hb5.mono (by have := HS3.out; omega))).setCell (p := ⟨w.heap.size, 2, none⟩) (Nat.le_refl _) (.slice d3 ks.length d4))
  have HO5 := Lib.hid (ownsRow_setCell_below hown5 (a := ⟨w.heap.size, 2, none⟩) (by have := HS3.out; show w.heap.size < w4.heap.size; omega) (.slice d3 ks.length d4))
  have HA5 := Lib.hid (own_mvd (own_mvd HO3.out (Mvd.of_below (X := []) hb5) (fun q _ hx => by cases hx)) (Mvd.of_set w5 w.heap.size 2 (.slice d3 ks.length d4)) (fun q hq hx => by
    have h1 := (HO3.out.lt q hq).1
    rw [HS2.out] at h1
    simp at hx
    omega))
  have HS5 := Lib.hid (show w4.heap.size ≤ (w5.setCell ⟨w.heap.size, 2, none⟩ (.slice d3 ks.length d4)).heap.size by simpa using hs5)
  have HAL := Lib.hid (show ∀ q, (Value.slice d1 ats.length d2).ownBlock = some q → w.heap.size + 2 ≤ q ∧ q < w4.heap.size from fun q hq => by
    have h1 := HO3.out.lt q hq
    rw [HS2.out] at h1
    exact h1)
  clear hown5 hb5 hs5 hX5 HN x2 HSET HR3 HB03 HO3
  go_upto_region 3 with fail
  clear f5 y5
  generalize w5.setCell ⟨w.heap.size, 2, none⟩ (.slice d3 ks.length d4) = w6 at HSET5 HR5 HB05 HO5 HA5 HS5 ⊢
  have hX6 : w6.heap[w.heap.size]? = some (.cells #[.string (str n), (.slice d1 ats.length d2), (.slice d3 ks.length d4), .string (str t)] 25 (0, 0)) := HSET5.out
  have x6 : w6.cell? ⟨w.heap.size, 2, none⟩ = some (.slice d3 ks.length d4) := by rw [cell_of_row w6 _ 2 _ _ (0, 0) hX6]; rfl
  have hkn := HKN.out
  have hkl := HKL.out
  have HX6 := Lib.hid hX6
  have HB56 := Lib.hid (show w.heap.size + 2 ≤ w4.heap.size ∧ w4.heap.size ≤ w6.heap.size from ⟨HS3.out, HS5.out⟩)
  have HL0 := Lib.hid (show CpL w w6 w4.heap.size (.slice d3 ks.length d4) ks 0 kds w6 from ⟨Mvd.refl _ _, by rw [hkl]; exact HO5.out, HKX.out, fun j q _ hq => HKN.out q (List.mem_of_getElem? hq), fun j q h _ => absurd h (by omega)⟩)
  have HOS := Lib.hid (own_slice HO5.out)
  have HOB := Lib.hid (show ∀ q, q ∈ (Value.slice d3 ks.length d4).ownBlock.toList → w4.heap.size ≤ q ∧ q < w6.heap.size from fun q hq => HO5.out.lt q (by simpa using hq))
  have hk3 : ks.length ≤ 300 := HSM.out.1
  have hk3I : (ks.length : Int) ≤ 300 := by omega
  clear hX6 hkn
  go_upto_region 4 with fail
  clear x6
  go_loopw [16] (fun i wr => ∃ (k : Nat) (kd : List Kd), k ≤ ks.length ∧ kd.length = ks.length ∧ i = .int .i64 k ∧ CpL w w6 w4.heap.size (.slice d3 ks.length d4) ks k kd wr) (fun i _ => ks.length - (intOf i).toNat)
  case atStart => exact ⟨0, kds, by omega, hkl, rfl, HL0.out⟩
  case round =>
    obtain ⟨k, kd, hk, hkd, rfl, hC⟩ := hrel
    have HC := Lib.hid hC
    clear hC
    by_cases hlt : k < ks.length
    · obtain ⟨q, hq⟩ : ∃ q, kd[k]? = some q := ⟨_, List.getElem?_eq_getElem (by omega)⟩
      obtain ⟨g, rfl, hg4, hg6⟩ : ∃ (g : Nat), d3 = some ⟨g, 0, none⟩ ∧ w4.heap.size ≤ g ∧ g < w6.heap.size := by
        rcases HOS.out with ⟨h1, h2⟩ | ⟨g, c, h1, h2, h3⟩
        · omega
        · cases h1; exact ⟨_, rfl, h2, h3⟩
      have hown := HC.out.own
      have hcell : ∀ c u, c < 4 → (kdL q)[c]? = some u → wr.cell? ⟨g, k * 4 + c, none⟩ = some u := fun c u hc hu => by
        have h1 := hown.cells (g := g) rfl _ _ ((rowN_at kd k c q hq hc).trans hu)
        rw [addg0] at h1
        exact h1
      have hold := HC.out.old k q (Nat.le_refl _) hq
      obtain ⟨s1, s2, s3, s4, hva, hvk⟩ := node_cells hold
      have ha0 : (⟨g, 0, none⟩ : Addr).add (k * 4) = ⟨g, k * 4, none⟩ := addg0 g _
      have q0 : wr.cell? ⟨g, k * 4, none⟩ = some (.string (str q.x.n)) := by exact hcell 0 _ (by omega) rfl
      have q1 : wr.cell? ⟨g, k * 4 + 1, none⟩ = some (.slice s1 q.x.ats.length s2) := by rw [← hva]; exact hcell 1 _ (by omega) rfl
      have q2 : wr.cell? ⟨g, k * 4 + 2, none⟩ = some (.slice s3 q.x.ks.length s4) := by rw [← hvk]; exact hcell 2 _ (by omega) rfl
      have q3 : wr.cell? ⟨g, k * 4 + 3, none⟩ = some (.string (str q.x.t)) := by exact hcell 3 _ (by omega) rfl
      have hkI : (k : Int) < (ks.length : Int) := by omega
      have HQ := Lib.hid hq
      have HG := Lib.hid (And.intro hg4 hg6)
      have HVA := Lib.hid hva
      have HVK := Lib.hid hvk
      have HOLD := Lib.hid hold
      have HKD := Lib.hid hkd
      have hXr := (HC.out.mv.block w.heap.size (by have := HB56.out; omega) (fun hx => by have := HOB.out _ hx; have := HB56.out; omega)).trans HX6.out
      have z2 : wr.cell? ⟨w.heap.size, 2, none⟩ = some (.slice (some ⟨g, 0, none⟩) ks.length d4) := by rw [cell_of_row wr _ 2 _ _ (0, 0) hXr]; rfl
      have hrs : w6.heap.size ≤ wr.heap.size := HC.out.mv.size
      obtain ⟨wb, hwb⟩ : ∃ wb, wb = wr.alloc (.cells #[.string (str q.x.n), .slice s1 q.x.ats.length s2, .slice s3 q.x.ks.length s4, .string (str q.x.t)] 25) := ⟨_, rfl⟩
      have hbb : Below wr.heap.size wr wb := by rw [hwb]; exact (Below.refl _ _).alloc (Nat.le_refl _) _
      have hrow : wb.heap[wr.heap.size]? = some (.cells #[.string (str q.x.n), .slice s1 q.x.ats.length s2, .slice s3 q.x.ks.length s4, .string (str q.x.t)] 25 (0, 0)) := by rw [hwb]; exact heap_alloc_new wr _
      have r0 : wb.cell? ⟨wr.heap.size, 0, none⟩ = some (.string (str q.x.n)) := by rw [cell_of_row wb _ 0 _ _ (0, 0) hrow]; rfl
      have r1 : wb.cell? ⟨wr.heap.size, 1, none⟩ = some (.slice s1 q.x.ats.length s2) := by rw [cell_of_row wb _ 1 _ _ (0, 0) hrow]; rfl
      have r2 : wb.cell? ⟨wr.heap.size, 2, none⟩ = some (.slice s3 q.x.ks.length s4) := by rw [cell_of_row wb _ 2 _ _ (0, 0) hrow]; rfl
      have r3 : wb.cell? ⟨wr.heap.size, 3, none⟩ = some (.string (str q.x.t)) := by rw [cell_of_row wb _ 3 _ _ (0, 0) hrow]; rfl
      have zb : wb.cell? ⟨w.heap.size, 2, none⟩ = some (.slice (some ⟨g, 0, none⟩) ks.length d4) := (hbb.cell (World.block_lt_of_cell? wr _ z2)).trans z2
      have HBB := Lib.hid hbb
      have hqm : q.x ∈ ks := by rw [← HC.out.xs]; exact List.mem_map_of_mem (List.mem_of_getElem? hq)
      have hw0r : Below w.heap.size w wr := HB05.out.trans (HC.out.mv.below (by have := HB56.out; omega) (fun b hb => by have := HOB.out b hb; have := HB56.out; omega))
      have hn7 : NdV wb.drew (allF wb.drew) q.x (.slice s1 q.x.ats.length s2) (.slice s3 q.x.ks.length s4) := by
        rw [← hva, ← hvk]
        exact hold.onto ((hw0r.trans (hbb.mono hw0r.size)).drew) (Nat.le_refl _)
      have HCC := Lib.hid ((HS.out q.x hqm _ _ wb.drew hn7).mono (R' := fun e w7 => ∃ p1 p2 p3 p4, e = .returned (.agg #[.string (str q.x.n), .slice p1 q.x.ats.length p2, .slice p3 q.x.ks.length p4, .string (str q.x.t)]) ∧
          w7.cell? ⟨w.heap.size, 2, none⟩ = some (.slice (some ⟨g, 0, none⟩) ks.length d4) ∧ w7.cell? ⟨g, k * 4, none⟩ = some (.string (str q.x.n)) ∧ w7.cell? ⟨g, k * 4 + 1, none⟩ = some (.slice s1 q.x.ats.length s2) ∧
          w7.cell? ⟨g, k * 4 + 2, none⟩ = some (.slice s3 q.x.ks.length s4) ∧ w7.cell? ⟨g, k * 4 + 3, none⟩ = some (.string (str q.x.t)) ∧
          w7.frozen? ⟨g, k * 4, none⟩ = false ∧ (∀ c, w7.frozen? ⟨g, k * 4 + c, none⟩ = false) ∧
          Hid (Below wr.heap.size wr w7 ∧ NdV w7 (fun b => wr.heap.size ≤ b ∧ b < w7.heap.size) q.x (.slice p1 q.x.ats.length p2) (.slice p3 q.x.ks.length p4))) (by
        rintro e w7 ⟨va, vk, rfl, hnd, hb7⟩
        have hbs : wb.drew.heap.size = wb.heap.size := rfl
        have h27 : Below wr.heap.size wr w7 := (hbb.drew).trans (hb7.mono (by rw [hbs]; exact hbb.size))
        have hlt : ∀ A u, wr.cell? A = some u → w7.cell? A = some u := fun A u h => (h27.cell (World.block_lt_of_cell? wr _ h)).trans h
        obtain ⟨p1, p2, p3, p4, rfl, rfl⟩ := node_cells hnd
        have o7 := own_mvd hown (Mvd.of_below (X := []) h27) (fun _ _ h => by cases h)
        rw [← hkd] at o7
        refine ⟨p1, p2, p3, p4, rfl, hlt _ _ z2, hlt _ _ q0, hlt _ _ q1, hlt _ _ q2, hlt _ _ q3, by exact o7.frozenAt _, fun c => by exact o7.frozenAt _, Lib.hid ⟨h27, hnd.frame (fun _ _ => rfl) fun b hB => ⟨Nat.le_trans hbb.size hB.1, hB.2⟩⟩⟩))
      clear hXr hbb hrow hqm hw0r hn7 hrs
      clear hq hg4 hg6 hva hvk hown hcell hold hkd
      go_upto_region 6 with fail
      rw [← hwb]
      have HWB := Lib.hid hwb
      clear hwb q0 q1 q2 q3 z2
      go_region_law (first | (go_simp; go_at_call 32; refine HCC.out.mono ?_; rintro e w7 ⟨p1, p2, p3, p4, rfl, z7, q0, q1, q2, q3, fr0, fr7, H7⟩; have fr1 := fr7 1; have fr2 := fr7 2; have fr3 := fr7 3; clear fr7))
      all_goals
        have HSTEP := Lib.hid (HC.out.step HG.out.2 H7.out.1 HQ.out H7.out.2)
        clear q0 q1 q2 q3 fr0 fr1 fr2 fr3 z7 r0 r1 r2 r3 zb H7
        generalize (((w7.setCell ⟨g, k * 4, none⟩ _).setCell _ _).setCell _ _).setCell _ _ = w8 at HSTEP ⊢
        go_wp2
        go_roundw
        case rel => exact ⟨k + 1, _, by omega, by rw [List.length_set]; exact HKD.out, by go_num, HSTEP.out⟩
        case measure => simp [intOf]; omega
    · have hle : (ks.length : Int) ≤ k := by omega
      have hX := (HC.out.mv.block w.heap.size (by have := HB56.out; omega) (fun hx => by have := HOB.out _ hx; have := HB56.out; omega)).trans HX6.out
      have hR := (HC.out.mv.block (w.heap.size + 1) (by have := HB56.out; omega) (fun hx => by have := HOB.out _ hx; have := HB56.out; omega)).trans HR5.out
      have hwr : w.heap.size + 2 ≤ wr.heap.size := by have := HC.out.mv.size; have := HB56.out; omega
      have e0 : wr.cell? ⟨w.heap.size, 0, none⟩ = some (.string (str n)) := by rw [cell_of_row wr _ 0 _ _ (0, 0) hX]; rfl
      have e1 : wr.cell? ⟨w.heap.size, 1, none⟩ = some (.slice d1 ats.length d2) := by rw [cell_of_row wr _ 1 _ _ (0, 0) hX]; rfl
      have e2 : wr.cell? ⟨w.heap.size, 2, none⟩ = some (.slice d3 ks.length d4) := by rw [cell_of_row wr _ 2 _ _ (0, 0) hX]; rfl
      have e3 : wr.cell? ⟨w.heap.size, 3, none⟩ = some (.string (str t)) := by rw [cell_of_row wr _ 3 _ _ (0, 0) hX]; rfl
      have g0 : wr.cell? ⟨w.heap.size + 1, 0, none⟩ = some (.string ⟨#[]⟩) := by rw [cell_of_row wr _ 0 _ _ (0, 0) hR]; rfl
      have g1 : wr.cell? ⟨w.heap.size + 1, 1, none⟩ = some (.slice none 0 0) := by rw [cell_of_row wr _ 1 _ _ (0, 0) hR]; rfl
      have g2 : wr.cell? ⟨w.heap.size + 1, 2, none⟩ = some (.slice none 0 0) := by rw [cell_of_row wr _ 2 _ _ (0, 0) hR]; rfl
      have g3 : wr.cell? ⟨w.heap.size + 1, 3, none⟩ = some (.string ⟨#[]⟩) := by rw [cell_of_row wr _ 3 _ _ (0, 0) hR]; rfl
      have f0 : wr.frozen? ⟨w.heap.size + 1, 0, none⟩ = false := frozen_of_row wr _ 0 _ _ hR
      have f1 : wr.frozen? ⟨w.heap.size + 1, 1, none⟩ = false := frozen_of_row wr _ 1 _ _ hR
      have f2 : wr.frozen? ⟨w.heap.size + 1, 2, none⟩ = false := frozen_of_row wr _ 2 _ _ hR
      have f3 : wr.frozen? ⟨w.heap.size + 1, 3, none⟩ = false := frozen_of_row wr _ 3 _ _ hR
      have s1 := heap_setCell_same wr (w.heap.size + 1) 0 _ _ (.string (str n)) hR
      have s2 := heap_setCell_same _ (w.heap.size + 1) 1 _ _ (.slice d1 ats.length d2) s1
      have s3 := heap_setCell_same _ (w.heap.size + 1) 2 _ _ (.slice d3 ks.length d4) s2
      have s4 := heap_setCell_same _ (w.heap.size + 1) 3 _ _ (.string (str t)) s3
      have hmv := Mvd.of_set wr (w.heap.size + 1) 0 (.string (str n))
      have hmv := hmv.trans (Mvd.of_set _ (w.heap.size + 1) 1 (.slice d1 ats.length d2))
      have hmv := hmv.trans (Mvd.of_set _ (w.heap.size + 1) 2 (.slice d3 ks.length d4))
      have HMV := Lib.hid (hmv.trans (Mvd.of_set _ (w.heap.size + 1) 3 (.string (str t))))
      have HS4 := Lib.hid s4
      have HKD := Lib.hid hkd
      clear s1 s2 s3 s4 hmv hX hR hkd hwr
      go_upto_region 8 with fail
      go_wp2_with fail
      generalize (((wr.setCell ⟨w.heap.size + 1, 0, none⟩ _).setCell _ _).setCell _ _).setCell _ _ = wf at HMV HS4 ⊢
      have hrow : wf.heap[w.heap.size + 1]? = some (.cells #[.string (str n), .slice d1 ats.length d2, .slice d3 ks.length d4, .string (str t)] 25 (0, 0)) := HS4.out
      refine bodyPost_ret (results_cell_row (P := Tryd.prog) rfl _ _ (w.heap.size + 1) 25 #[.string (str n), .slice d1 ats.length d2, .slice d3 ks.length d4, .string (str t)] (0, 0) _ rfl hrow Tryd.underlying25 rfl (by kernel_rfl)) rfl ?_
      have h6 := HB56.out
      have hmr := HMV.out
      have hmr : Mvd [w.heap.size + 1] wr wf := hmr.mono (by simp)
      have h6r := HC.out.mv.size
      have hrf := hmr.size
      have hown := own_mvd HC.out.own hmr (fun b hb hx => by have := HOB.out b (by simpa using hb); simp at hx; omega)
      have hatr := own_mvd (own_mvd HA5.out HC.out.mv (fun b hb hx => by have := HOB.out b hx; have := HAL.out b hb; omega)) hmr (fun b hb hx => by have := HAL.out b hb; simp at hx; omega)
      have hkk : k = kd.length := by rw [HKD.out]; omega
      have hfin := NdV.of_own (F := fun b => w.heap.size ≤ b ∧ b < wf.heap.size) (n := n) (t := t) (ats := ats) hown (RdAs.of_own hatr) (fun _ b hb => by have := HAL.out b hb; omega) (fun y hy => by
        obtain ⟨j, hj⟩ := List.getElem?_of_mem hy
        refine (HC.out.new j y (by rw [hkk]; exact (List.getElem?_eq_some_iff.1 hj).1) hj).frame (fun b hb => hmr.block b hb.2 (by simp; omega)) fun b hb => ⟨by omega, by omega⟩) (fun b hb => by have := HOB.out b (by simpa using hb); omega)
      rw [HC.out.xs] at hfin
      refine ⟨_, _, rfl, hfin, ?_⟩
      have hb := HB05.out.trans (HC.out.mv.below (by omega) (fun b hb => by have := HOB.out b hb; omega))
      exact hb.trans (hmr.below hb.size (by simp))
theorem cop_all : ∀ (m : Nat) (x : Tr), x.size ≤ m → x.sm → CopS x
  | 0, x, h, _ => by cases x; simp only [Tr.size] at h; omega
  | m + 1, x, h, hs => cop_step x hs fun k hk => by
    have h1 := Tr.size_mem hk
    have h2 := x.size_ks
    refine cop_all m k (by omega) ?_
    cases x
    exact sms_mem hs.2.2.2.2.2 hk
theorem copied_any (x : Tr) (hs : x.sm) : CopS x := cop_all x.size x (Nat.le_refl _) hs

/-- v is a row made behind w0, of these elements, none of which lies in the row's own block -/
structure RowK (w0 : World) (v : Value) (kds : List Kd) (w : World) : Prop where
  own : w.ownsRow w0.heap.size 25 4 v kds.length (rowN kds)
  kid : ∀ q ∈ kds, NdV w (fun b => b < w.heap.size ∧ v.ownBlock ≠ some b) q.x q.va q.vk
  b : Below w0.heap.size w0 w
theorem RowK.below {w0 w w' : World} {v : Value} {kds : List Kd} (h : RowK w0 v kds w) (hb : Below w.heap.size w w') : RowK w0 v kds w' :=
  ⟨own_mvd h.own (Mvd.of_below (X := []) hb) (fun _ _ hx => by cases hx), fun q hq => (h.kid q hq).frame (fun b hB => hb.block b hB.1) fun b hB => ⟨Nat.lt_of_lt_of_le hB.1 hb.size, hB.2⟩, h.b.trans (hb.mono h.b.size)⟩
theorem appN {ops : Array Oper} {rest : List Oper} {o : Oper} {a : Act} {Q : Exit → Act → World → Prop} {W0 w0 : World} (k : Kd) (hgd : o.guard = none) (s x : Operand)
    (ho : o.op = .call { callee := .builtin .append, args := #[s, x], argTypes := #[23, 23] }) {v : Value} {kds : List Kd} (hs : a.eval s = v) (h : RowK W0 v kds w0) (hk : NdV w0 (fun b => b < w0.heap.size ∧ v.ownBlock ≠ some b) k.x k.va k.vk)
    (h1 : k.va.oneCell' = true) (h2 : k.vk.oneCell' = true) (hx : a.eval x = .slice (some ⟨w0.heap.size, 0, none⟩) 1 1) (hn : kds.length ≤ 100000)
    (hK : ∀ g cap w', RowK W0 (.slice (some ⟨g, 0, none⟩) (kds.length + 1) cap) (kds ++ [k]) w' → wpList Tryd.prog ops Q rest (a.put o.dst (.slice (some ⟨g, 0, none⟩) (kds.length + 1) cap)) w') :
    wpList Tryd.prog ops Q (o :: rest) a (w0.alloc (.cells #[.string (str k.x.n), k.va, k.vk, .string (str k.x.t)] 25)) := by
  obtain ⟨i, hi, hz, hsize, hby⟩ := info_parts node_info
  have hbs := h.b.size
  refine wpList_append_lies _ hgd s x 23 ho W0.heap.size 25 i _ 4 80 Tryd.underlying23 hi hz hsize hby rfl (by omega) v kds.length (rowN kds) hs (h.own.alloc _) ⟨w0.heap.size, 0, none⟩ 1 1 (kdL k) hx rfl ?_ ?_ (by omega) (by simp only [maxLen]; omega) (by omega) (by simp; omega) (w0.heap.size + 1) (by simp) ?_
  · intro j y hj
    rw [addg0, World.cell?_alloc_at _ _ _ _ rfl]
    simpa [kdL, ndL] using hj
  · intro u hu
    simp only [kdL, ndL, List.mem_cons, List.not_mem_nil, or_false] at hu
    rcases hu with rfl | rfl | rfl | rfl <;> first | rfl | exact h1 | exact h2
  · intro g cap w' ho' hg hor hlt
    have hb1 : Below w0.heap.size w0 (w0.alloc (.cells #[.string (str k.x.n), k.va, k.vk, .string (str k.x.t)] 25)) := (Below.refl _ _).alloc (Nat.le_refl _) _
    have hg1 : ∀ b, b < w0.heap.size ∧ v.ownBlock ≠ some b → w'.heap[b]? = w0.heap[b]? := fun b hb => (hg.block b (by simp; omega) (fun e => hb.2 e.symm)).trans (hb1.block b hb.1)
    have hg2 : ∀ b, b < w0.heap.size ∧ v.ownBlock ≠ some b → b < w'.heap.size ∧ (Value.slice (some ⟨g, 0, none⟩) (kds.length + 1) cap).ownBlock ≠ some b := fun b hb => by
      have h3 := hg.size
      simp at h3
      refine ⟨by omega, fun e => ?_⟩
      have e2 : g = b := by simpa [Value.ownBlock] using e
      subst e2
      rcases hor with h4 | h4
      · exact hb.2 h4
      · omega
    refine hK g cap w' ⟨?_, fun q hq => ?_, ?_⟩
    · rw [rowN_snoc, List.length_append]; exact ho'
    · rcases List.mem_append.1 hq with hq | hq
      · exact (h.kid q hq).frame hg1 hg2
      · rw [List.mem_singleton] at hq
        subst hq
        exact hk.frame hg1 hg2
    · exact (h.b.alloc h.b.size _).grown hg (by simp; omega) fun b hb => (h.own.lt b hb).1
/-- whether Kids gives it -/
def isK (k : Tr) (s : ByteArray) : Bool := decide (k.n ≠ []) && (s.toList == [] || (str k.n).toList == s.toList)
theorem kids_snoc (l : List Tr) (k : Nat) (y : Tr) (s : ByteArray) (h : l[k]? = some y) : (l.take (k + 1)).filter (isK · s) = (l.take k).filter (isK · s) ++ (if isK y s = true then [y] else []) := by
  rw [take_snoc _ k y h, List.filter_append]
  congr 1
  by_cases hk : isK y s = true
  · simp [List.filter, hk]
  · simp [List.filter, hk]
set_option maxRecDepth 100000 in
set_option maxHeartbeats 2000000 in
theorem Kids_any (x : Tr) (va vk : Value) (s : ByteArray) (w : World) (hs : x.sm) (hx : NdV w (allF w) x va vk) :
    Calls Tryd.prog 16 #[nodeV x va vk, .string s] w fun e w' => ∃ v kds, e = .returned v ∧ RowK w v kds w' ∧ kds.map (·.x) = x.ks.filter (isK · s) := by
  obtain ⟨c1, c2, c3, c4, rfl, rfl⟩ := node_cells hx
  obtain ⟨n, ats, ks, t⟩ := x
  unfold nodeV
  simp only [Tr.n, Tr.ats, Tr.ks, Tr.t, Tr.sm] at hx hs ⊢
  obtain ⟨w1, hw1⟩ : ∃ w1, w1 = w.alloc (.cells #[.string (str n), .slice c1 ats.length c2, .slice c3 ks.length c4, .string (str t)] 25) := ⟨_, rfl⟩
  have hb1 : Below w.heap.size w w1 := by rw [hw1]; exact (Below.refl _ _).alloc (Nat.le_refl _) _
  have hX : w1.heap[w.heap.size]? = some (.cells #[.string (str n), .slice c1 ats.length c2, .slice c3 ks.length c4, .string (str t)] 25 (0, 0)) := by rw [hw1]; exact heap_alloc_new w _
  have HKX := Lib.hid (show ∀ w2, Below w.heap.size w w2 → RdSl 4 (NdAt w2 (allF w2)) (.slice c3 ks.length c4) ks from fun w2 hb => (hx.onto hb (Nat.le_refl _)).rd)
  have x2 : w1.cell? ⟨w.heap.size, 2, none⟩ = some (.slice c3 ks.length c4) := by rw [cell_of_row w1 _ 2 _ _ (0, 0) hX]; rfl
  have HCP := Lib.hid (show ∀ (k : Nat) y, ks[k]? = some y → CopS y from fun k y hy => copied_any y (sms_mem hs.2.2.2.2.2 (List.mem_of_getElem? hy)))
  have hkl := hs.1
  have hklI : (ks.length : Int) ≤ 300 := by omega
  have HW1 := Lib.hid hw1
  have HR1 := Lib.hid (show RowK w (.slice none 0 0) [] w1 from ⟨World.ownsRow_nil _ _ _ _, fun q hq => (by cases hq), hb1⟩)
  clear hx hs hw1 hb1 hX
  go_enter Tryd.func16, Tryd.ntmps16
  go_upto_region 2 with fail
  rw [← HW1.out]
  go_upto_region 3 with fail
  clear x2
  go_loopw [5, 11] (fun v i wr => ∃ (k : Nat) (kds : List Kd), k ≤ ks.length ∧ i = .int .i64 k ∧ RowK w v kds wr ∧ kds.map (·.x) = (ks.take k).filter (isK · s)) (fun _ i _ => ks.length - (intOf i).toNat)
  case atStart => exact ⟨0, [], by omega, rfl, HR1.out, rfl⟩
  case round =>
    obtain ⟨k, kds, hk, rfl, hr, hm⟩ := hrel
    obtain ⟨v, hv⟩ : ∃ v, v = u5 := ⟨_, rfl⟩
    subst hv
    have HR0 := Lib.hid hr
    have HM := Lib.hid hm
    have hbw := hr.b
    have HLE := Lib.hid (show kds.length ≤ 300 by
      have h1 : (kds.map (·.x)).length ≤ (ks.take k).length := by rw [hm]; exact List.length_filter_le _ _
      rw [List.length_map, List.length_take] at h1
      omega)
    clear hr hm
    by_cases hlt : k < ks.length
    · obtain ⟨y, hy⟩ : ∃ y, ks[k]? = some y := ⟨_, List.getElem?_eq_getElem hlt⟩
      obtain ⟨a, rfl, va, vk, ⟨q0, q1, q2, q3⟩, hny⟩ := RdSl.elem (HKX.out wr hbw) hy
      obtain ⟨s1, s2, s3, s4, rfl, rfl⟩ := node_cells hny
      have hkI : (k : Int) < (ks.length : Int) := by omega
      obtain ⟨wb, hwb⟩ : ∃ wb, wb = wr.alloc (.cells #[.string (str y.n), .slice s1 y.ats.length s2, .slice s3 y.ks.length s4, .string (str y.t)] 25) := ⟨_, rfl⟩
      have hbb : Below wr.heap.size wr wb := by rw [hwb]; exact (Below.refl _ _).alloc (Nat.le_refl _) _
      have hrow : wb.heap[wr.heap.size]? = some (.cells #[.string (str y.n), .slice s1 y.ats.length s2, .slice s3 y.ks.length s4, .string (str y.t)] 25 (0, 0)) := by rw [hwb]; exact heap_alloc_new wr _
      have r0 : wb.cell? ⟨wr.heap.size, 0, none⟩ = some (.string (str y.n)) := by rw [cell_of_row wb _ 0 _ _ (0, 0) hrow]; rfl
      have r1 : wb.cell? ⟨wr.heap.size, 1, none⟩ = some (.slice s1 y.ats.length s2) := by rw [cell_of_row wb _ 1 _ _ (0, 0) hrow]; rfl
      have r2 : wb.cell? ⟨wr.heap.size, 2, none⟩ = some (.slice s3 y.ks.length s4) := by rw [cell_of_row wb _ 2 _ _ (0, 0) hrow]; rfl
      have r3 : wb.cell? ⟨wr.heap.size, 3, none⟩ = some (.string (str y.t)) := by rw [cell_of_row wb _ 3 _ _ (0, 0) hrow]; rfl
      have HC := Lib.hid (HCP.out k y hy _ _ wb (hny.onto hbb (Nat.le_refl _)))
      unfold nodeV at HC
      have HR := Lib.hid (HR0.out.below hbb)
      have HWB := Lib.hid hwb
      have HTK := Lib.hid (kids_snoc ks k y s hy)
      clear hy hbw hwb hbb hrow hny HR0
      go_upto_region 5 with fail
      rw [← HWB.out]
      generalize wr.heap.size = Y at r0 r1 r2 r3 ⊢
      clear q0 q1 q2 q3
      by_cases hyn : y.n = []
      · have hE : (str y.n).toList.isEmpty = true := by rw [hyn]; kernel_rfl
        have hE2 : ((str y.n).toList == []) = true := by rw [hyn]; kernel_rfl
        have HN := Lib.hid (HTK.out.trans (by rw [if_neg (show ¬ isK y s = true by simp [isK, hyn])]))
        clear hyn
        go_wp2_with fail
        go_roundw
        case rel => exact ⟨k + 1, _, by omega, by go_num, HR.out, by rw [HM.out, HN.out, List.append_nil]⟩
        case measure => simp [intOf]; omega
      · have hE : (str y.n).toList.isEmpty = false := by
          rw [ByteArray.toList_eq, toList_str]
          cases hq : y.n with
          | nil => exact absurd hq hyn
          | cons c t => rfl
        cases hse : (s.toList == []) with
        | true =>
          have hse2 : s.toList.isEmpty = true := by simpa using hse
          have HN := Lib.hid (HTK.out.trans (by rw [if_pos (show isK y s = true by simp only [isK, hse]; simp [hyn])]))
          clear hyn
          go_wp2_with fail
          refine HC.out.mono ?_
          rintro e w5 ⟨va5, vk5, rfl, hn5, hb5⟩
          obtain ⟨p1, p2, p3, p4, rfl, rfl⟩ := node_cells hn5
          have HR5 := Lib.hid (HR.out.below hb5)
          have HN5 := Lib.hid (hn5.frame (F' := fun b => b < w5.heap.size ∧ v.ownBlock ≠ some b) (fun _ _ => rfl) fun b hb => ⟨hb.2, fun he => by have := HR.out.own.lt b he; have h1 := hb.1; omega⟩)
          unfold nodeV
          clear hn5 hb5 r0 r1 r2 r3
          go_wp2_with (at_builtin
                       refine appN ⟨y, .slice p1 y.ats.length p2, .slice p3 y.ks.length p4⟩ rfl _ _ rfl (by simp [Act.eval]) HR5.out HN5.out rfl rfl (by simp [Act.eval]) (by have := HLE.out; omega) ?_)
          intro g6 c6 w6 hr6
          have HR6 := Lib.hid hr6
          clear hr6
          go_wp2_with fail
          go_roundw
          case rel => exact ⟨k + 1, _, by omega, by go_num, HR6.out, by rw [List.map_append, HM.out, HN.out]; rfl⟩
          case measure => simp [intOf]; omega
        | false =>
          have hse2 : s.toList.isEmpty = false := by simpa using hse
          cases hys : ((str y.n).toList == s.toList) with
          | true =>
            have HN := Lib.hid (HTK.out.trans (by rw [if_pos (show isK y s = true by simp only [isK, hse, hys]; simp [hyn])]))
            clear hyn
            go_wp2_with fail
            refine HC.out.mono ?_
            rintro e w5 ⟨va5, vk5, rfl, hn5, hb5⟩
            obtain ⟨p1, p2, p3, p4, rfl, rfl⟩ := node_cells hn5
            have HR5 := Lib.hid (HR.out.below hb5)
            have HN5 := Lib.hid (hn5.frame (F' := fun b => b < w5.heap.size ∧ v.ownBlock ≠ some b) (fun _ _ => rfl) fun b hb => ⟨hb.2, fun he => by have := HR.out.own.lt b he; have h1 := hb.1; omega⟩)
            unfold nodeV
            clear hn5 hb5 r0 r1 r2 r3
            go_wp2_with (at_builtin
                         refine appN ⟨y, .slice p1 y.ats.length p2, .slice p3 y.ks.length p4⟩ rfl _ _ rfl (by simp [Act.eval]) HR5.out HN5.out rfl rfl (by simp [Act.eval]) (by have := HLE.out; omega) ?_)
            intro g6 c6 w6 hr6
            have HR6 := Lib.hid hr6
            clear hr6
            go_wp2_with fail
            go_roundw
            case rel => exact ⟨k + 1, _, by omega, by go_num, HR6.out, by rw [List.map_append, HM.out, HN.out]; rfl⟩
            case measure => simp [intOf]; omega
          | false =>
            have HN := Lib.hid (HTK.out.trans (by rw [if_neg (show ¬ isK y s = true by simp only [isK, hse, hys]; simp)]))
            clear hyn
            go_wp2_with fail
            go_roundw
            case rel => exact ⟨k + 1, _, by omega, by go_num, HR.out, by rw [HM.out, HN.out, List.append_nil]⟩
            case measure => simp [intOf]; omega
    · have hle : (ks.length : Int) ≤ k := by omega
      have HTK := Lib.hid (show ks.take k = ks from List.take_of_length_le (by omega))
      clear hbw
      go_wp2_with fail
      go_ret
      exact ⟨_, _, rfl, HR0.out, by rw [HM.out, HTK.out]⟩

/-- the first attribute of that name -/
def attrV : List At2 → ByteArray → ByteArray × Bool
  | [], _ => (⟨#[]⟩, false)
  | p :: l, s => if ((str p.1).toList == s.toList) = true then (str p.2, true) else attrV l s
theorem attrV_yes {l : List At2} {k : Nat} {p : At2} {s : ByteArray} (h : l[k]? = some p) (he : ((str p.1).toList == s.toList) = true) : attrV (l.drop k) s = (str p.2, true) := by
  obtain ⟨hk, rfl⟩ := List.getElem?_eq_some_iff.1 h
  rw [List.drop_eq_getElem_cons hk, attrV, if_pos he]
theorem attrV_no {l : List At2} {k : Nat} {p : At2} {s : ByteArray} (h : l[k]? = some p) (he : ((str p.1).toList == s.toList) = false) : attrV (l.drop k) s = attrV (l.drop (k + 1)) s := by
  obtain ⟨hk, rfl⟩ := List.getElem?_eq_some_iff.1 h
  rw [List.drop_eq_getElem_cons hk, attrV, if_neg (by rw [he]; decide)]
theorem attrV_end {l : List At2} {k : Nat} {s : ByteArray} (h : l.length ≤ k) : attrV (l.drop k) s = (⟨#[]⟩, false) := by rw [List.drop_eq_nil_of_le h]; rfl
set_option maxRecDepth 100000 in
set_option maxHeartbeats 2000000 in
theorem Attr_any (x : Tr) (va vk : Value) (s : ByteArray) (w : World) (hx : NdV w (allF w) x va vk) :
    Calls Tryd.prog 15 #[nodeV x va vk, .string s] w fun e w' => e = .returned (.tuple #[.string (attrV x.ats s).1, .bool (attrV x.ats s).2]) ∧ Below w.heap.size w w' := by
  have hat := hx.ats
  obtain ⟨c1, c2, c3, c4, rfl, rfl⟩ := node_cells hx
  obtain ⟨n, ats, ks, t⟩ := x
  unfold nodeV
  simp only [Tr.n, Tr.ats, Tr.ks, Tr.t] at hx hat ⊢
  obtain ⟨w1, hw1⟩ : ∃ w1, w1 = w.alloc (.cells #[.string (str n), .slice c1 ats.length c2, .slice c3 ks.length c4, .string (str t)] 25) := ⟨_, rfl⟩
  have hb1 : Below w.heap.size w w1 := by rw [hw1]; exact (Below.refl _ _).alloc (Nat.le_refl _) _
  have hX : w1.heap[w.heap.size]? = some (.cells #[.string (str n), .slice c1 ats.length c2, .slice c3 ks.length c4, .string (str t)] 25 (0, 0)) := by rw [hw1]; exact heap_alloc_new w _
  have HKX := Lib.hid (show ∀ w2, Below w.heap.size w w2 → RdAs w2 (.slice c1 ats.length c2) ats from fun w2 hb => hat.below hb (Nat.le_refl _))
  have hal := RdSl.len hat
  have halI : (ats.length : Int) ≤ 9223372036854775807 := by omega
  have x1 : w1.cell? ⟨w.heap.size, 1, none⟩ = some (.slice c1 ats.length c2) := by rw [cell_of_row w1 _ 1 _ _ (0, 0) hX]; rfl
  have HW1 := Lib.hid hw1
  have HB1 := Lib.hid hb1
  clear hx hat hw1 hb1 hX
  go_enter Tryd.func15, Tryd.ntmps15
  go_upto_region 1 with fail
  rw [← HW1.out]
  go_upto_region 2 with fail
  clear x1
  go_loopw [11] (fun i wr => ∃ (k : Nat), k ≤ ats.length ∧ i = .int .i64 k ∧ attrV ats s = attrV (ats.drop k) s ∧ Below w.heap.size w wr) (fun i _ => ats.length - (intOf i).toNat)
  case atStart => exact ⟨0, by omega, rfl, rfl, HB1.out⟩
  case round =>
    obtain ⟨k, hk, rfl, hv, hbw⟩ := hrel
    have HB := Lib.hid hbw
    by_cases hlt : k < ats.length
    · obtain ⟨p, hp⟩ : ∃ p, ats[k]? = some p := ⟨_, List.getElem?_eq_getElem hlt⟩
      obtain ⟨a, rfl, q0, q1⟩ := RdSl.elem (HKX.out wr hbw) hp
      have hkI : (k : Int) < (ats.length : Int) := by omega
      have HBA := Lib.hid (hbw.trans (((Below.refl wr.heap.size wr).alloc (Nat.le_refl _) (.cells #[.string (str p.1), .string (str p.2)] 36)).mono hbw.size))
      cases he : ((str p.1).toList == s.toList) with
      | true =>
        have hv2 := hv.trans (attrV_yes hp he)
        have HV := Lib.hid hv2
        clear hv hp hv2 hbw
        go_wp2_with fail
        go_ret2
        rw [HV.out]
        exact ⟨rfl, HBA.out⟩
      | false =>
        have hv2 := hv.trans (attrV_no hp he)
        have HV := Lib.hid hv2
        clear hv hp hv2 hbw
        go_wp2_with fail
        go_roundw
        case rel => exact ⟨k + 1, by omega, by go_num, HV.out, HBA.out⟩
        case measure => simp [intOf]; omega
    · have hle : (ats.length : Int) ≤ k := by omega
      have hv2 := hv.trans (attrV_end (by omega))
      have HV := Lib.hid hv2
      clear hv hv2 hbw
      go_wp2_with fail
      go_ret2
      rw [HV.out]
      exact ⟨rfl, HB.out⟩

theorem Bld.below3 {B b : Nat} {bs : List UInt8} {w w' : World} (h : Bld B b bs w) (hb : Below w.heap.size w w') : Bld B b bs w' := by
  have one : ∀ p, Lib.BuilderAt 68 5 B b p (Lib.byteCells bs) w → Lib.BuilderAt 68 5 B b p (Lib.byteCells bs) w' := by
    rintro p ⟨hB, v, hc, hown, hne⟩
    exact ⟨hB, v, (hb.block b (Array.getElem?_eq_some_iff.1 hc).1).trans hc, own_belowG hown hb, hne⟩
  exact h.imp (one _) (one _)
/-- the texts among the kids -/
def textM : List Tr → List UInt8
  | [] => []
  | k :: l => (if k.n = [] then k.t else []) ++ textM l
theorem textM_snoc : ∀ (l : List Tr) (k : Tr), textM (l ++ [k]) = textM l ++ (if k.n = [] then k.t else [])
  | [], k => by simp [textM]
  | q :: l, k => by simp only [List.cons_append, textM, textM_snoc l k, List.append_assoc]
theorem textM_take (l : List Tr) (k : Nat) (y : Tr) (h : l[k]? = some y) : textM (l.take (k + 1)) = textM (l.take k) ++ (if y.n = [] then y.t else []) := by rw [take_snoc _ k y h, textM_snoc]
theorem textM_len : ∀ (l : List Tr), Tr.sms l → (textM l).length ≤ 1000 * l.length
  | [], _ => by simp [textM]
  | q :: l, h => by
    have h1 := textM_len l h.2
    have h2 : q.t.length ≤ 1000 := by
      have := h.1
      cases q
      exact this.2.2.2.1
    simp only [textM, List.length_append, List.length_cons]
    split <;> simp <;> omega
set_option maxRecDepth 100000 in
set_option maxHeartbeats 2000000 in
theorem Text_any (x : Tr) (va vk : Value) (w : World) (hs : x.sm) (hx : NdV w (allF w) x va vk) (hT : Lib.Utf8Tabs 1 2 w) :
    Calls Tryd.prog 17 #[nodeV x va vk] w fun e w' => e = .returned (.string (Lib.trimF blankN (str (textM x.ks)))) ∧ Below w.heap.size w w' := by
  obtain ⟨c1, c2, c3, c4, rfl, rfl⟩ := node_cells hx
  obtain ⟨n, ats, ks, t⟩ := x
  unfold nodeV
  simp only [Tr.n, Tr.ats, Tr.ks, Tr.t, Tr.sm] at hx hs ⊢
  obtain ⟨w1, hw1⟩ : ∃ w1, w1 = w.alloc (.cells #[.string (str n), .slice c1 ats.length c2, .slice c3 ks.length c4, .string (str t)] 25) := ⟨_, rfl⟩
  have hb1 : Below w.heap.size w w1 := by rw [hw1]; exact (Below.refl _ _).alloc (Nat.le_refl _) _
  have hs1 : w1.heap.size = w.heap.size + 1 := by rw [hw1]; simp
  have hX : w1.heap[w.heap.size]? = some (.cells #[.string (str n), .slice c1 ats.length c2, .slice c3 ks.length c4, .string (str t)] 25 (0, 0)) := by rw [hw1]; exact heap_alloc_new w _
  obtain ⟨w2, hw2⟩ : ∃ w2, w2 = w1.alloc (.cells #[.pointer none, .slice none 0 0] 68) := ⟨_, rfl⟩
  have hb2 : Below w1.heap.size w1 w2 := by rw [hw2]; exact (Below.refl _ _).alloc (Nat.le_refl _) _
  have hbd : Bld (w.heap.size + 1) (w.heap.size + 1) [] w2 := .inl ⟨Nat.le_refl _, _, by rw [hw2, ← hs1]; exact heap_alloc_new w1 _, World.ownsRow_nil _ _ _ _, by simp [Value.ownBlock]⟩
  have HKX := Lib.hid (show ∀ w2, Below w.heap.size w w2 → RdSl 4 (NdAt w2 (allF w2)) (.slice c3 ks.length c4) ks from fun w2 hb => (hx.onto hb (Nat.le_refl _)).rd)
  have hX2 := (hb2.block w.heap.size (by omega)).trans hX
  have x2 : w2.cell? ⟨w.heap.size, 2, none⟩ = some (.slice c3 ks.length c4) := by rw [cell_of_row w2 _ 2 _ _ (0, 0) hX2]; rfl
  have HL := Lib.hid (show ∀ k, (textM (ks.take k)).length ≤ 300000 from fun k => by
    have h1 := textM_len (ks.take k) (by
      have h2 := hs.2.2.2.2.2
      rw [← List.take_append_drop k ks, sms_app] at h2
      exact h2.1)
    have h3 := hs.1
    have h4 : (ks.take k).length ≤ 300 := by rw [List.length_take]; omega
    omega)
  have HT1 := Lib.hid (show ∀ (k : Nat) y, ks[k]? = some y → y.t.length ≤ 1000 from fun k y hy => by
    have h1 := sms_mem hs.2.2.2.2.2 (List.mem_of_getElem? hy)
    cases y
    exact h1.2.2.2.1)
  have hkl := hs.1
  have hklI : (ks.length : Int) ≤ 300 := by omega
  have HW1 := Lib.hid hw1
  have HW2 := Lib.hid hw2
  have HBD := Lib.hid hbd
  have HB2 := Lib.hid (hb1.trans (hb2.mono hb1.size))
  have HT := Lib.hid hT
  have HS2 := Lib.hid (show w.heap.size + 1 ≤ w2.heap.size by have := hb2.size; omega)
  clear hx hs hT hw1 hb1 hs1 hX hw2 hb2 hbd hX2
  go_enter Tryd.func17, Tryd.ntmps17
  go_upto_region 2 with fail
  rw [← HW1.out, ← HW2.out]
  go_upto_region 3 with fail
  clear x2
  go_loopw [9] (fun i wr => ∃ (k : Nat), k ≤ ks.length ∧ i = .int .i64 k ∧ Bld (w.heap.size + 1) (w.heap.size + 1) (textM (ks.take k)) wr ∧ Below w.heap.size w wr ∧ w.heap.size + 1 ≤ wr.heap.size) (fun i _ => ks.length - (intOf i).toNat)
  case atStart => exact ⟨0, by omega, rfl, HBD.out, HB2.out, HS2.out⟩
  case round =>
    obtain ⟨k, hk, rfl, hbu, hbw, hsw⟩ := hrel
    have HB := Lib.hid hbw
    have HBU := Lib.hid hbu
    by_cases hlt : k < ks.length
    · obtain ⟨y, hy⟩ : ∃ y, ks[k]? = some y := ⟨_, List.getElem?_eq_getElem hlt⟩
      obtain ⟨a, rfl, va, vk, ⟨q0, q1, q2, q3⟩, hny⟩ := RdSl.elem (HKX.out wr hbw) hy
      obtain ⟨s1, s2, s3, s4, rfl, rfl⟩ := node_cells hny
      have hkI : (k : Int) < (ks.length : Int) := by omega
      obtain ⟨wb, hwb⟩ : ∃ wb, wb = wr.alloc (.cells #[.string (str y.n), .slice s1 y.ats.length s2, .slice s3 y.ks.length s4, .string (str y.t)] 25) := ⟨_, rfl⟩
      have hbb : Below wr.heap.size wr wb := by rw [hwb]; exact (Below.refl _ _).alloc (Nat.le_refl _) _
      have hrow : wb.heap[wr.heap.size]? = some (.cells #[.string (str y.n), .slice s1 y.ats.length s2, .slice s3 y.ks.length s4, .string (str y.t)] 25 (0, 0)) := by rw [hwb]; exact heap_alloc_new wr _
      have r0 : wb.cell? ⟨wr.heap.size, 0, none⟩ = some (.string (str y.n)) := by rw [cell_of_row wb _ 0 _ _ (0, 0) hrow]; rfl
      have r3 : wb.cell? ⟨wr.heap.size, 3, none⟩ = some (.string (str y.t)) := by rw [cell_of_row wb _ 3 _ _ (0, 0) hrow]; rfl
      have HBW := Lib.hid (hbw.trans (hbb.mono hbw.size))
      have HSB := Lib.hid (show w.heap.size + 1 ≤ wb.heap.size by have := hbb.size; omega)
      have HBB := Lib.hid (hbu.below3 hbb)
      have HWB := Lib.hid hwb
      have HTK := Lib.hid (textM_take ks k y hy)
      have HLY := Lib.hid (HT1.out k y hy)
      have HLK := Lib.hid (HL.out k)
      clear hy hbw hbu hwb hbb hrow hny
      go_upto_region 5 with fail
      rw [← HWB.out]
      generalize wr.heap.size = Y at r0 r3 ⊢
      clear q0 q1 q2 q3
      by_cases hyn : y.n = []
      · have hE : (str y.n).toList.isEmpty = true := by rw [hyn]; kernel_rfl
        have hE2 : ((str y.n).toList == []) = true := by rw [hyn]; kernel_rfl
        have HN := Lib.hid (HTK.out.trans (by rw [if_pos hyn]))
        clear hyn
        go_wp2_with fail
        refine (bu_writeString (w.heap.size + 1) (w.heap.size + 1) (textM (ks.take k)) _ _ HBB.out (by rw [size_str]; have := HLY.out; have := HLK.out; omega) HSB.out).mono ?_
        rintro e w5 ⟨rfl, hbu5, hb5⟩
        have HBU5 := Lib.hid hbu5
        have HB5 := Lib.hid (And.intro (HBW.out.trans (hb5.mono (by omega))) (Nat.le_trans HSB.out hb5.size))
        clear hbu5 hb5 r0 r3
        go_wp2_with fail
        go_roundw
        case rel => exact ⟨k + 1, by omega, by go_num, by rw [HN.out]; exact HBU5.out, HB5.out.1, HB5.out.2⟩
        case measure => simp [intOf]; omega
      · have hE : (str y.n).toList.isEmpty = false := by
          rw [ByteArray.toList_eq, toList_str]
          cases hq : y.n with
          | nil => exact absurd hq hyn
          | cons c t => rfl
        have HN := Lib.hid (HTK.out.trans (by rw [if_neg hyn, List.append_nil]))
        clear hyn
        go_wp2_with fail
        go_roundw
        case rel => exact ⟨k + 1, by omega, by go_num, by rw [HN.out]; exact HBB.out, HBW.out, HSB.out⟩
        case measure => simp [intOf]; omega
    · have hle : (ks.length : Int) ≤ k := by omega
      have HTK := Lib.hid (show ks.take k = ks from List.take_of_length_le (by omega))
      have HLK := Lib.hid (HL.out k)
      rw [HTK.out] at hbu
      clear hbw
      go_wp2_with fail
      refine (Tryd.Builder_String_any (w.heap.size + 1) (w.heap.size + 1) _ _ hbu hsw).mono ?_
      rintro e w5 ⟨rfl, hb5⟩
      have HB5 := Lib.hid (HB.out.trans (hb5.mono (by omega)))
      have hT5 : Lib.Utf8Tabs 1 2 w5 := Utf8Tabs_below HT.out HB5.out
      go_wp2_with fail
      refine (Trim_any _ (by show (textM ks).length ≤ _; have := HLK.out; rw [HTK.out] at this; omega) _ hT5).mono ?_
      rintro e w6 ⟨rfl, hb6⟩
      go_wp2
      go_ret
      exact ⟨rfl, HB5.out.trans (hb6.mono HB5.out.size)⟩
end Go.Proofs.YtpbkidmdfibaoaaDoor
