/-
  Layer 3: the grower's methods inner and leave. Own work.
-/
import Derived.Test.YtpbkidmdfibaoaaGreatDoorGr3
import Derived.Deep.RegionLaw
import Derived.Deep.AppendLies
import Derived.Deep.RegionHeld3
namespace Go.Proofs.YtpbkidmdfibaoaaGreatDoor
set_option linter.unusedVariables false
set_option linter.unusedSimpArgs false
open Go.RowKit

variable {Od : Nat → Prop}

theorem ptr_info : (Tryz.prog.info? 47).map (fun i => (i.zero, i.size, i.bytes)) = some (some (.pointer none), 1, 8) := by kernel_rfl
theorem own_form {w : World} {base e size n : Nat} {v : Value} {xs : List Value} (h : w.ownsRow base e size v n xs) (hn : 0 < n) : ∃ g cap, v = .slice (some ⟨g, 0, none⟩) n cap := by
  rcases h.2 with ⟨_, h0⟩ | ⟨g, cap, cur, rfl, _⟩
  · omega
  · exact ⟨g, cap, rfl⟩
theorem own_low {w : World} {base B e size n : Nat} {v : Value} {xs : List Value} (h : w.ownsRow base e size v n xs) (hB : B ≤ base) : w.ownsRow B e size v n xs := by
  refine ⟨h.1, ?_⟩
  rcases h.2 with h1 | ⟨g, cap, cur, h1, h2, h3⟩
  · exact .inl h1
  · exact .inr ⟨g, cap, cur, h1, Nat.le_trans hB h2, h3⟩
/-- one more pointer behind the open ones -/
theorem run_app_op (w : World) (ty : TypeId) {s0 : Nat} {v : Value} {xs : List Value} {u : Value} (h : OpR w s0 v xs) (hs : s0 ≤ w.heap.size) (q c : Nat) (hu : w.cell? ⟨q, 0, none⟩ = some u) (h1 : u.oneCell' = true) (hn : xs.length ≤ 100000) :
    ∃ g cap w', (Builtin.append_ #[46, 46] ty #[v, .slice (some ⟨q, 0, none⟩) 1 c]).run Tryz.prog w = .ok (.slice (some ⟨g, 0, none⟩) (xs.length + 1) cap) w' ∧ OpR w' s0 (.slice (some ⟨g, 0, none⟩) (xs.length + 1) cap) (xs ++ [u]) ∧ w.grownBy w' v.ownBlock ∧ (v.ownBlock = some g ∨ w.heap.size ≤ g) := by
  obtain ⟨i, hi, hz, hsz, hby⟩ := info_parts ptr_info
  have hlen : (xs ++ [u]).length = xs.length + 1 := by simp
  have hnews : ∀ (j : Nat) x, [u][j]? = some x → w.cell? ((⟨q, 0, none⟩ : Addr).add j) = some x := fun j x hx => by
    match j with
    | 0 =>
      simp only [List.getElem?_cons_zero, Option.some.injEq] at hx
      subst hx
      exact hu
    | j + 1 => simp at hx
  rcases h with h | ⟨g, cur, rfl, hg, hcur, ht, hb⟩
  · obtain ⟨v', w', hr, ho, hgr, _, hob⟩ := run_append_own_at (P := Tryz.prog) w s0 46 ty _ i _ 1 8 Tryz.underlying46 hi hz hsz hby rfl (by omega) v xs.length xs h ⟨q, 0, none⟩ 1 c [u] rfl hnews (by simpa using h1) (by simp only [maxLen]; omega) (by omega) hs
    obtain ⟨g, cap, rfl⟩ := own_form ho (by omega)
    refine ⟨g, cap, w', hr, .inl (by rw [hlen]; exact ho), hgr, ?_⟩
    rcases hob with h2 | h2
    · exact .inl h2.symm
    · cases h2; exact .inr (Nat.le_refl _)
  · have holds : ∀ j u, xs[j]? = some u → w.cell? ((⟨g, 0, none⟩ : Addr).add j) = some u := fun j u hj => by
      rw [show (⟨g, 0, none⟩ : Addr).add j = ⟨g, j, none⟩ by unfold Addr.add; split <;> simp_all, cell_of_row w g j cur _ (0, 0) hcur]
      rw [← ht, List.getElem?_take] at hj
      split at hj
      · simpa using hj
      · cases hj
    obtain ⟨v', w', hr, ho, hgr⟩ := run_append_arg_grows (P := Tryz.prog) w 46 ty _ i _ 1 8 Tryz.underlying46 hi hz hsz hby rfl (by omega) ⟨g, 0, none⟩ xs.length xs.length xs (by omega) holds ⟨q, 0, none⟩ 1 c [u] rfl hnews (by omega) (by simp only [maxLen]; omega) (by omega)
    obtain ⟨g', cap, rfl⟩ := own_form ho (by omega)
    have hlo := ho.lt g' rfl
    refine ⟨g', cap, w', hr, .inl (by rw [hlen]; exact own_low ho hs), ⟨hgr.os, hgr.tape, hgr.output, hgr.size, fun k hk _ => hgr.block k hk (by simp)⟩, .inr hlo.1⟩
/-- likewise, a step of a region that draws; w2: the world ahead of it -/
theorem stepP {ops : Array Oper} {E : Prop} {o : Oper} {a : Act} {w w2 : World} {K : Act → World → Prop} {Q : Exit → Act → World → Prop} (s x : Operand) (hgd : o.guard = none)
    (ho : o.op = .call { callee := .builtin .append, args := #[s, x], argTypes := #[46, 46] }) {s0 : Nat} {v : Value} {xs : List Value} (u : Value) (q n : Nat) (hsv : a.eval s = v) (hx : a.eval x = .slice (some ⟨q, 0, none⟩) 1 1)
    (hb : Below w2.heap.size w2 w) (h : OpR w2 s0 v xs) (hs : s0 ≤ w2.heap.size) (hu : w.cell? ⟨q, 0, none⟩ = some u) (h1 : u.oneCell' = true) (hxs : xs.length = n) (hn : n ≤ 100000)
    (hK : ∀ g cap w', OpR w' s0 (.slice (some ⟨g, 0, none⟩) (n + 1) cap) (xs ++ [u]) → Mvd v.ownBlock.toList w w' → (v.ownBlock = some g ∨ w.heap.size ≤ g) → K (a.put o.dst (.slice (some ⟨g, 0, none⟩) (n + 1) cap)) w') :
    if Region.wanted o (yielded ops a.tmps) = true then Oper.wp Tryz.prog o a w K Q else E := by
  have hw : Region.wanted o (yielded ops a.tmps) = true := by simp [Region.wanted, hgd]
  rw [if_pos hw]
  subst hxs
  have hm : Mvd [] w2 w := Mvd.of_below hb
  obtain ⟨g, cap, w', hr, h2, h3, h5⟩ := run_app_op w o.type (h.kept hm (by simp)) (Nat.le_trans hs hb.size) q 1 hu h1 hn
  unfold Oper.wp execOp
  simp only [ho, resolve, invoke, builtin, Sem.run_bind, Sem.run_pure, Result.andThen_ok, List.map_toArray, List.map_cons, List.map_nil, hsv, hx, hr]
  exact hK g cap w' h2 (Mvd.of_grown h3) h5
/-- one more element behind a row of elements, a step of a region that draws -/
theorem stepN {ops : Array Oper} {E : Prop} {o : Oper} {a : Act} {w w2 : World} {K : Act → World → Prop} {Q : Exit → Act → World → Prop} (s x : Operand) (hgd : o.guard = none)
    (ho : o.op = .call { callee := .builtin .append, args := #[s, x], argTypes := #[24, 24] }) {base n : Nat} {v : Value} {xs : List Value} (k : Kd) (q : Nat) (hsv : a.eval s = v) (hx : a.eval x = .slice (some ⟨q, 0, none⟩) 1 1)
    (hb : Below w2.heap.size w2 w) (hown : w2.ownsRow base 26 4 v n xs) (hq : w.heap[q]? = some (.cells (kdL k).toArray 26 (0, 0))) (h1 : k.va.oneCell' = true) (h2 : k.vk.oneCell' = true) (hn : n ≤ 100000) (hbase : base ≤ w2.heap.size)
    (hK : ∀ g cap w', w'.ownsRow base 26 4 (.slice (some ⟨g, 0, none⟩) (n + 1) cap) (n + 1) (xs ++ kdL k) → Mvd v.ownBlock.toList w2 w' → (v.ownBlock = some g ∨ w2.heap.size ≤ g) → K (a.put o.dst (.slice (some ⟨g, 0, none⟩) (n + 1) cap)) w') :
    if Region.wanted o (yielded ops a.tmps) = true then Oper.wp Tryz.prog o a w K Q else E := by
  obtain ⟨i, hi, hz, hsize, hby⟩ := info_parts node_info
  have hm : Mvd [] w2 w := Mvd.of_below hb
  refine step_append_lies _ hgd s x 24 ho base 26 i _ 4 80 Tryz.underlying24 hi hz hsize hby rfl (by omega) v n xs hsv (own_mvd hown hm (by simp)) ⟨q, 0, none⟩ 1 1 (kdL k) hx rfl ?_ ?_ (by omega) (by simp only [maxLen]; omega) (by omega) (Nat.le_trans hbase hb.size) w.heap.size rfl ?_
  · intro j y hj
    rw [show (⟨q, 0, none⟩ : Addr).add j = ⟨q, j, none⟩ by unfold Addr.add; split <;> simp_all, cell_of_row _ q j _ _ (0, 0) hq]
    simpa using hj
  · intro u hu
    simp only [kdL, ndL, List.mem_cons, List.not_mem_nil, or_false] at hu
    rcases hu with rfl | rfl | rfl | rfl <;> first | rfl | exact h1 | exact h2
  · intro g cap w' ho' hg hor _
    refine hK g cap w' ho' ((Mvd.of_below hb).trans (Mvd.of_grown hg)) ?_
    rcases hor with h | h
    · exact .inl h
    · exact .inr (by rw [h]; exact hb.size)
/-! inner, leave -/
theorem inner_at {w : World} {G O k c N : Nat} {vr v0 : Value} (hobj : w.heap[G]? = some (.cells #[.slice (some ⟨O, 0, none⟩) (k + 1) c, vr, v0] 49 (0, 0)))
    (hp : w.cell? ⟨O, k, none⟩ = some (.pointer (some ⟨N, 0, none⟩))) (hc : k + 1 ≤ c) (hk : k ≤ 100000) :
    Calls Tryz.prog 57 #[.pointer (some ⟨G, 0, none⟩)] w fun e w' => e = .returned (.pointer (some ⟨N, 0, none⟩)) ∧ w' = w.drew := by
  have c0 : w.cell? ⟨G, 0, none⟩ = some (.slice (some ⟨O, 0, none⟩) (k + 1) c) := by rw [cell_of_row w G 0 _ _ (0, 0) hobj]; rfl
  have hkI : (k : Int) ≤ 100000 := by omega
  have hwr : IntKind.i64.wrap (((k + 1 : Nat) : Int) - 1) = (k : Int) := by rw [IntWalk.i64_in _ (by omega)]; omega
  clear hobj
  go_enter Tryz.func57, Tryz.ntmps57
  go_upto_region 1 with fail
  go_region
  all_goals go_wp2
  go_ret
  exact ⟨rfl, rfl⟩
theorem Fr.tr_n (f : Fr) : f.tr.n = f.n := rfl
theorem Fr.tr_t (f : Fr) : f.tr.t = [] := rfl
theorem Fr.tr_add (f : Fr) (k : Kd) : f.tr.add k.x = Fr.tr { f with kd := f.kd ++ [k] } := by simp [Fr.tr, Tr.add, Tr.n, Tr.ats, Tr.ks, Tr.t]
def Fr.size2 (f f2 : Fr) (fs : List Fr) : Nat := f2.tr.size + f.tr.size + Tr.sizes (fs.map Fr.tr)
theorem GR.noroot {w0 w : World} {G : Nat} {g : Gs} {f : Fr} {fs : List Fr} {vo vr : Value} {F : Nat → Prop} (h : GR w0 Od G g (f :: fs) vo vr F w) : g.root = none ∧ vr = .pointer none := by
  have h1 : g.root = none := by
    cases hr : g.root with
    | none => rfl
    | some t => exact absurd (h.one (by rw [hr]; rfl)) (by simp)
  have h2 := h.rt
  rw [h1] at h2
  exact ⟨h1, h2⟩
/-- where the innermost one's pointer lies -/
theorem GR.top {w0 w : World} {G : Nat} {g : Gs} {f : Fr} {fs : List Fr} {vo vr : Value} {F : Nat → Prop} (h : GR w0 Od G g (f :: fs) vo vr F w) : ∃ O c, vo = .slice (some ⟨O, 0, none⟩) (fs.length + 1) c ∧ fs.length + 1 ≤ c ∧ w.cell? ⟨O, fs.length, none⟩ = some (.pointer (some ⟨f.N, 0, none⟩)) := by
  have ho := h.op
  obtain ⟨a, c, rfl⟩ := ho.shape
  have hl : ((f :: fs).reverse.map Fr.ptr).length = fs.length + 1 := by simp
  rw [hl] at ho ⊢
  obtain ⟨O, rfl, _, hc, hcell⟩ := ho.cell (i := fs.length) (u := f.ptr) (by rw [List.reverse_cons, List.map_append, List.getElem?_append_right (by simp)]; simp)
  exact ⟨O, c, rfl, hc, hcell⟩
theorem GR.opn {w0 w : World} {G : Nat} {g : Gs} {fs : List Fr} {vo vr : Value} {F : Nat → Prop} (h : GR w0 Od G g fs vo vr F w) : ∀ q, vo.ownBlock = some q → q ∉ [G] := by
  intro q hq hx
  rw [List.mem_singleton] at hx
  subst hx
  have hnod := h.nod
  simp only [mutL, List.nodup_cons, List.mem_append, not_or, hq] at hnod
  exact hnod.1.1 (by simp)
set_option maxRecDepth 100000 in
set_option maxHeartbeats 400000 in
theorem leave_at {w0 w : World} {G : Nat} {g : Gs} {f : Fr} {fs : List Fr} {vo vr : Value} {F : Nat → Prop} (h : GR w0 Od G g (f :: fs) vo vr F w) :
    Calls Tryz.prog 56 #[.pointer (some ⟨G, 0, none⟩)] w fun e w' => e = .returned (.tuple #[]) ∧ ∃ fs' vo' vr' F', GR w0 Od G (leaveG g) fs' vo' vr' F' w' := by
  obtain ⟨hroot, rfl⟩ := h.noroot
  obtain ⟨O, c, rfl, hkc, hcell⟩ := h.top
  have hd := h.dl
  simp only [List.length_cons] at hd
  have HST := Lib.hid h.st
  obtain ⟨N, n, ats, va, vk, kd⟩ := f
  obtain ⟨aa, ac, hva⟩ := (h.ok _ List.mem_cons_self).ra.shape
  dsimp only at hva
  subst hva
  have hrow := (h.ok _ List.mem_cons_self).row
  obtain ⟨ka, kc, hvk⟩ : ∃ a c, vk = .slice a kd.length c := by
    rcases hrow.2 with ⟨h1, h2⟩ | ⟨g, cap, cur, h1, _⟩
    · exact ⟨_, _, h1.trans (by rw [show kd.length = 0 from h2])⟩
    · exact ⟨_, _, h1⟩
  subst hvk
  have HIN := Lib.hid (inner_at h.obj hcell hkc (by omega))
  have HB1 := Lib.hid (h.below (w' := w.drew) (Below.refl _ _).drew)
  clear h hrow hcell
  obtain ⟨K, hK⟩ : ∃ K, K = fs.length := ⟨_, rfl⟩
  have HK := Lib.hid hK
  rw [← hK] at HB1 hkc hd
  dsimp only at HIN
  have hKI : (K : Int) ≤ 64 := by omega
  have hwr : IntKind.i64.wrap (((K + 1 : Nat) : Int) - 1) = (K : Int) := by rw [IntWalk.i64_in _ (by omega)]; omega
  clear hK
  go_enter Tryz.func56, Tryz.ntmps56
  go_wp2_with fail
  refine HIN.out.mono ?_
  rintro e w1 ⟨rfl, hw1⟩
  have H1 := Lib.hid (show GR w0 Od G g _ _ _ F w1 by rw [hw1]; exact HB1.out)
  clear hw1 HB1 HIN
  have hobj := H1.out.obj
  have c0 : w1.cell? ⟨G, 0, none⟩ = some (.slice (some ⟨O, 0, none⟩) (K + 1) c) := by rw [cell_of_row w1 G 0 _ _ (0, 0) hobj]; rfl
  have f0 : w1.frozen? ⟨G, 0, none⟩ = false := frozen_of_row w1 G 0 _ _ hobj
  have hset := heap_setCell_same w1 G 0 _ _ (.slice (some ⟨O, 0, none⟩) K K) hobj
  have HMV := Lib.hid (Mvd.of_set w1 G 0 (.slice (some ⟨O, 0, none⟩) K K))
  have HOP := Lib.hid (show OpR w1 w0.heap.size (.slice (some ⟨O, 0, none⟩) K K) (fs.reverse.map Fr.ptr) by
    have := H1.out.op
    rw [List.reverse_cons, List.map_append] at this
    have h2 := OpR.cut this (by simp; have := HK.out; omega)
    simp only [List.length_map, List.length_reverse] at h2
    rw [← HK.out] at h2
    exact h2)
  have HSET := Lib.hid hset
  clear hobj hset
  cases fs with
  | nil =>
    obtain rfl : K = 0 := HK.out
    go_upto_region 3 with fail
    generalize w1.setCell ⟨G, 0, none⟩ (.slice (some ⟨O, 0, none⟩) 0 0) = w2 at HSET HMV ⊢
    have hobj2 : w2.heap[G]? = some (.cells #[.slice (some ⟨O, 0, none⟩) 0 0, .pointer none, .int .i64 (g.c : Int)] 49 (0, 0)) := HSET.out
    have c1 : w2.cell? ⟨G, 1, none⟩ = some (.pointer none) := by rw [cell_of_row w2 G 1 _ _ (0, 0) hobj2]; rfl
    have f1 : w2.frozen? ⟨G, 1, none⟩ = false := frozen_of_row w2 G 1 _ _ hobj2
    have hset := heap_setCell_same w2 G 1 _ _ (.pointer (some ⟨N, 0, none⟩)) hobj2
    have HMV2 := Lib.hid (HMV.out.trans (Mvd.of_set w2 G 1 (.pointer (some ⟨N, 0, none⟩))))
    have HSET2 := Lib.hid hset
    clear hset hobj2 c0 f0
    go_wp2_with fail
    refine bodyPost_ret (results_none rfl _ _ _) rfl ?_
    have hG : g.st = [Fr.tr ⟨N, n, ats, .slice aa ats.length ac, .slice ka kd.length kc, kd⟩] := HST.out.symm
    have hnod := H1.out.nod
    have hd := GR.drop (r' := some (Fr.tr ⟨N, n, ats, .slice aa ats.length ac, .slice ka kd.length kc, kd⟩)) H1.out HMV2.out HSET2.out (HOP.out.kept HMV2.out fun q hq => H1.out.opn q hq) rfl (.inr ⟨rfl, rfl, rfl⟩)
    have hl : leaveG g = ⟨[], some (Fr.tr ⟨N, n, ats, .slice aa ats.length ac, .slice ka kd.length kc, kd⟩), g.c⟩ := by unfold leaveG; rw [hG]
    rw [hl]
    exact ⟨rfl, [], _, _, _, hd.1⟩
  | cons f2 fs =>
    have hK1 : K = fs.length + 1 := HK.out
    have hK0 : ((K : Int) == 0) = false := by simp; omega
    have hK2 : ¬ K = 0 := by omega
    clear hK1
    go_upto_region 3 with fail
    have hnod := Lib.hid H1.out.nod
    generalize w1.setCell ⟨G, 0, none⟩ (.slice (some ⟨O, 0, none⟩) K K) = w2 at HSET HMV ⊢
    have hobj2 : w2.heap[G]? = some (.cells #[.slice (some ⟨O, 0, none⟩) K K, .pointer none, .int .i64 (g.c : Int)] 49 (0, 0)) := HSET.out
    obtain ⟨h2, hnv, hnode⟩ := GR.drop (r' := g.root) H1.out HMV.out hobj2 (HOP.out.kept HMV.out fun q hq => H1.out.opn q hq) rfl (.inl ⟨rfl, rfl⟩)
    have HNV := Lib.hid hnv
    obtain ⟨N2, n2, ats2, va2, vk2, kd2⟩ := f2
    have hf2 := h2.ok _ List.mem_cons_self
    obtain ⟨a2, c2, hva2⟩ := hf2.ra.shape
    dsimp only at hva2
    subst hva2
    have hrow2 := hf2.row
    obtain ⟨k2, q2, hvk2⟩ : ∃ a c, vk2 = .slice a kd2.length c := by
      rcases hrow2.2 with ⟨h1, h2⟩ | ⟨g, cap, cur, h1, _⟩
      · exact ⟨_, _, h1.trans (by rw [show kd2.length = 0 from h2])⟩
      · exact ⟨_, _, h1⟩
    subst hvk2
    have H2 := Lib.hid h2
    have HIN2 := Lib.hid (show ∀ w', Below w2.heap.size w2 w' → Calls Tryz.prog 57 #[.pointer (some ⟨G, 0, none⟩)] w' fun e w3 => e = .returned (.pointer (some ⟨N2, 0, none⟩)) ∧ w3 = w'.drew from fun w' hb => by
      have h3 := h2.below hb
      obtain ⟨O', c', e1, e2, e3⟩ := h3.top
      have hl : K = fs.length + 1 := HK.out
      subst hl
      cases e1
      exact inner_at (k := fs.length) h3.obj e3 (Nat.le_refl _) (by omega))
    have HF2 := Lib.hid hf2
    have x0 : w2.cell? ⟨N, 0, none⟩ = some (.string (str n)) := by rw [cell_of_row w2 N 0 _ _ (0, 0) hnode]; rfl
    have x1 : w2.cell? ⟨N, 1, none⟩ = some (.slice aa ats.length ac) := by rw [cell_of_row w2 N 1 _ _ (0, 0) hnode]; rfl
    have x2 : w2.cell? ⟨N, 2, none⟩ = some (.slice ka kd.length kc) := by rw [cell_of_row w2 N 2 _ _ (0, 0) hnode]; rfl
    have x3 : w2.cell? ⟨N, 3, none⟩ = some (.string ⟨#[]⟩) := by rw [cell_of_row w2 N 3 _ _ (0, 0) hnode]; rfl
    have y2 : w2.cell? ⟨N2, 2, none⟩ = some (.slice k2 kd2.length q2) := by rw [cell_of_row w2 N2 2 _ _ (0, 0) hf2.node]; rfl
    have y2a : ∀ o, (w2.alloc o).cell? ⟨N2, 2, none⟩ = some (.slice k2 kd2.length q2) := fun o => (((Below.refl w2.heap.size w2).alloc (Nat.le_refl _) o).cell (World.block_lt_of_cell? w2 _ y2)).trans y2
    clear hnv hnode hf2 hrow2 hobj2 c0 f0
    have HKL := Lib.hid (show kd2.length ≤ 100000 by have := h2.kids List.mem_cons_self; dsimp only at this; omega)
    clear h2
    have HLE := Lib.hid (show leaveG g = ⟨(Fr.tr ⟨N2, n2, ats2, .slice a2 ats2.length c2, .slice k2 kd2.length q2, kd2⟩).add (Fr.tr ⟨N, n, ats, .slice aa ats.length ac, .slice ka kd.length kc, kd⟩) :: fs.map Fr.tr, g.root, g.c⟩ by
      unfold leaveG
      rw [← HST.out]
      rfl)
    have HTOT := Lib.hid (show Fr.size2 ⟨N, n, ats, .slice aa ats.length ac, .slice ka kd.length kc, kd⟩ ⟨N2, n2, ats2, .slice a2 ats2.length c2, .slice k2 kd2.length q2, kd2⟩ fs ≤ g.c by
      have := H1.out.tot
      rw [← H1.out.st] at this
      simp only [List.map_cons, Tr.sizes] at this
      unfold Fr.size2
      omega)
    go_upto_region 5 with fail
    go_region_law (first
      | (refine stepN (w2 := w2) (.tmp 34) (.tmp 38) rfl rfl ⟨Fr.tr ⟨N, n, ats, .slice aa ats.length ac, .slice ka kd.length kc, kd⟩, .slice aa ats.length ac, .slice ka kd.length kc⟩ w2.heap.size (by simp [Act.eval, Act.put]) (by simp [Act.eval, Act.put]) (by repeat (first | exact Below.refl _ _ | refine Below.drew ?_ | refine Below.alloc ?_ (by simp) _)) HF2.out.row (heap_alloc_new _ _) rfl rfl HKL.out H2.out.b.size ?_; intro g1 q1 w7 ho7 hm7 hor7; have hn7 := H2.out.node7 hm7; have f7 : w7.frozen? ⟨N2, 2, none⟩ = false := frozen_of_row w7 N2 2 _ _ hn7; have c7 : w7.cell? ⟨N2, 2, none⟩ = some (.slice k2 kd2.length q2) := (by rw [cell_of_row w7 N2 2 _ _ (0, 0) hn7]; rfl); clear hn7)
      | (go_simp; go_at_call 57; refine (HIN2.out _ (by repeat (first | exact Below.refl _ _ | refine Below.drew ?_ | refine Below.alloc ?_ (by simp) _))).mono ?_; rintro e w3 ⟨rfl, rfl⟩))
    all_goals
      have HFIN := Lib.hid (H2.out.more (k := ⟨Fr.tr ⟨N, n, ats, .slice aa ats.length ac, .slice ka kd.length kc, kd⟩, .slice aa ats.length ac, .slice ka kd.length kc⟩) HNV.out HTOT.out hm7 ho7 hor7)
      clear f7 c7 ho7 hm7 hor7
      go_wp2
      go_end0
      rw [HLE.out]
      exact ⟨rfl, _, _, _, _, HFIN.out⟩
end Go.Proofs.YtpbkidmdfibaoaaGreatDoor
