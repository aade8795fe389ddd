/-
  Layer 8: Expand. Own work.
-/
import Derived.Test.YthfholnnkdoagaaCat8
namespace Go.Proofs.Ythfholnnkdoagaa
set_option linter.unusedVariables false
set_option linter.unusedSimpArgs false
open Go.RowKit

section
variable {S : Tb} {U D : List Pp} {X Z : Nat → Prop} {w w' : World} {L E N : Nat} {t : TypeId} {x y z : Value}
theorem St.joinZ (h : St S U D X w) (hb : Below w.heap.size w w') (hZ : ∀ k, Z k → X k ∨ (w.heap.size ≤ k ∧ k < w'.heap.size)) : St S U D Z w' := by
  obtain ⟨vv, h1, h2⟩ := h
  have ho := h1.olds
  refine ⟨vv, h1.below hb, fun k hk => ?_⟩
  rcases hZ k hk with hk | hk
  · exact ⟨Nat.lt_of_lt_of_le (h2 k hk).1 hb.size, (h2 k hk).2⟩
  · exact ⟨hk.2, by omega, by omega, fun e => by have := ho.2.2 _ e; omega⟩
/-- the variables of the results are written -/
theorem St.res (h : St S U D X w) (hr : Res8 t w L E N x y z) (h1 : t ≠ 75) (h2 : t ≠ 33) (hL : X L ∧ S.B ≤ L) (hE : X E ∧ S.B ≤ E) (hN : X N ∧ S.B ≤ N) (hfr : ∀ k, k < w.heap.size → k ≠ L → k ≠ E → k ≠ N → w'.heap[k]? = w.heap[k]?) (hs : w.heap.size ≤ w'.heap.size) : St S U D X w' := by
  obtain ⟨vv, hv, hX⟩ := h
  have hh : ∀ {k : Nat} {o : Obj}, w.heap[k]? = some o → (k = L ∨ k = E ∨ k = N → False) → w'.heap[k]? = some o := fun {k o} hk hn => (hfr k (Array.getElem?_eq_some_iff.1 hk).1 (fun e => hn (.inl e)) (fun e => hn (.inr (.inl e))) (fun e => hn (.inr (.inr e)))).trans hk
  have hc : ∀ {k : Nat}, k = L ∨ k = E ∨ k = N → ∃ cs u, w.heap[k]? = some (Obj.cells cs u (0, 0)) ∧ u ≠ 75 ∧ u ≠ 33 ∧ X k ∧ S.B ≤ k := fun {k} hk => by
    rcases hk with rfl | rfl | rfl
    · exact ⟨_, _, hr.l, h1, h2, hL⟩
    · exact ⟨_, _, hr.e, by decide, by decide, hE⟩
    · exact ⟨_, _, hr.n, by decide, by decide, hN⟩
  refine ⟨vv, hv.frame (fun cs hk => hh hk fun hx => ?_) (fun k es c hk => hh hk fun hx => ?_) (fun k cs hk => hh hk fun hx => ?_) (fun k cs hb hk => hh hk fun hx => ?_) ?_, fun k hk => ⟨Nat.lt_of_lt_of_le (hX k hk).1 hs, (hX k hk).2⟩⟩
  · obtain ⟨c2, u, q1, q2, q3, q4, q5⟩ := hc hx
    rw [q1] at hk; cases hk; exact q2 rfl
  · obtain ⟨c2, u, q1, q2, q3, q4, q5⟩ := hc hx
    rw [q1] at hk; cases hk
  · obtain ⟨c2, u, q1, q2, q3, q4, q5⟩ := hc hx
    rw [q1] at hk; cases hk; exact q3 rfl
  · obtain ⟨c2, u, q1, q2, q3, q4, q5⟩ := hc hx
    exact (hX k q4).2.2.2 hb
  · have hm := hv.mxB
    exact hfr _ (World.block_lt_of_cell? w _ hv.mx) (fun e => by have := hL.2; omega) (fun e => by have := hE.2; omega) (fun e => by have := hN.2; omega)
theorem Kp.res {w0 : World} (h : Kp S X w0 w) (hL : w0.heap.size ≤ L) (hE : w0.heap.size ≤ E) (hN : w0.heap.size ≤ N) (hfr : ∀ k, k < w.heap.size → k ≠ L → k ≠ E → k ≠ N → w'.heap[k]? = w.heap[k]?) (h1 : w'.os = w.os) (h2 : w'.tape = w.tape) (h3 : w'.output = w.output) (hs : w.heap.size ≤ w'.heap.size) : Kp S X w0 w' :=
  h.below ⟨h1, h2, h3, hs, fun k hk => hfr k (Nat.lt_of_lt_of_le hk h.size) (by omega) (by omega) (by omega)⟩
theorem Res8.kp (h : Res8 t w L E N x y z) (hk : Kp S X w w') (hL : X L) (hE : X E) (hN : X N) : Res8 t w' L E N x y z :=
  ⟨(hk.x L hL (Array.getElem?_eq_some_iff.1 h.l).1).trans h.l, (hk.x E hE (Array.getElem?_eq_some_iff.1 h.e).1).trans h.e, (hk.x N hN (Array.getElem?_eq_some_iff.1 h.n).1).trans h.n⟩
end
/-- what Expand answers -/
def expV : Xp → Value
  | .ok v _ => .tuple #[.string (str v), .int .i64 0, .string ⟨#[]⟩]
  | .bad er n _ => .tuple #[.string ⟨#[]⟩, .int .i64 er, .string (str n)]
def ExpP (S : Tb) (U : List Pp) (X : Nat → Prop) (x : Xp) (w : World) (e : Ending) (w' : World) : Prop := e = .returned (expV x) ∧ St S U x.D X w' ∧ Kp S X w w'
set_option maxRecDepth 100000 in
set_option maxHeartbeats 4000000 in
theorem Expand8_any (S : Tb) (U : List Pp) (hU : UOk U) (X : Nat → Prop) (D : List Pp) (w : World) (s : List UInt8) (hs : s.length ≤ 100000) (hq : Q8 U [] D) (hst : St S U D X w) :
    Calls Try.prog 23 #[.pointer (some ⟨S.T, 0, none⟩), .string (str s)] w (ExpP S U X (expandM8 U s D) w) := by
  have hmf : ∀ (fn : Fn) (first cap : Array Value) (w : World), (Instr.makeFunc fn first cap).run Try.prog w = .ok (.func fn first cap) w := fun _ _ _ _ => rfl
  have hbs := own8_base hst
  obtain ⟨w1, hw1⟩ : ∃ w1, w1 = ((w.alloc (.cells #[.string ⟨#[]⟩] 9)).alloc (.cells #[.int .i64 0] 42)).alloc (.cells #[.string ⟨#[]⟩] 9) := ⟨_, rfl⟩
  have hz1 : w1.heap.size = w.heap.size + 3 := by rw [hw1]; simp
  have hb1 : Below w.heap.size w w1 := by rw [hw1]; exact (((Below.refl w.heap.size w).alloc (Nat.le_refl _) _).alloc (by simp) _).alloc (by simp; omega) _
  have hres1 : Res8 9 w1 w.heap.size (w.heap.size + 1) (w.heap.size + 1 + 1) (.string ⟨#[]⟩) (.int .i64 0) (.string ⟨#[]⟩) := by
    rw [hw1]
    refine ⟨?_, ?_, ?_⟩
    · rw [Below.heap_alloc _ _ _ (by simp; omega), Below.heap_alloc _ _ _ (by simp)]; exact heap_alloc_new w _
    · rw [Below.heap_alloc _ _ _ (by simp)]; exact heap_alloc2_new w _ _
    · have := heap_alloc2_new (w.alloc (.cells #[.string ⟨#[]⟩] 9)) (.cells #[.int .i64 0] 42) (.cells #[.string ⟨#[]⟩] 9)
      simpa using this
  have HW1 := Lib.hid hw1
  have HST := Lib.hid hst
  have HQ := Lib.hid hq
  generalize hX : expandM8 U s D = RES
  have HX := Lib.hid hX
  clear hw1 hst hq hX
  go_enter_defers Try.func23, Try.ntmps23
  go_upto_region 2 with fail
  rw [← HW1.out]
  obtain ⟨N, hN⟩ : ∃ N, N = w.heap.size + 1 + 1 := ⟨_, rfl⟩
  obtain ⟨E, hE⟩ : ∃ E, E = w.heap.size + 1 := ⟨_, rfl⟩
  obtain ⟨L, hL⟩ : ∃ L, L = w.heap.size := ⟨_, rfl⟩
  rw [← hN, ← hE, ← hL] at hres1
  rw [← hN, ← hE]
  have hNN : (w.heap.size ≤ L ∧ w.heap.size ≤ E ∧ w.heap.size ≤ N) ∧ (L < w1.heap.size ∧ E < w1.heap.size ∧ N < w1.heap.size) ∧ L ≠ E ∧ L ≠ N ∧ E ≠ N := by omega
  have HN := Lib.hid hNN
  have HRES := Lib.hid hres1
  have HB1 := Lib.hid hb1
  have HL := Lib.hid hL
  simp only [← HL.out]
  have HST1 := Lib.hid (show St S U D (fun k => X k ∨ k = L ∨ k = E ∨ k = N) w1 from HST.out.joinZ hb1 fun k hk => by
    rcases hk with hk | hk
    · exact .inl hk
    · right; omega)
  have HP := Lib.hid (put8_top S U hU (fun k => X k ∨ k = L ∨ k = E ∨ k = N) D w1 s hs HQ.out HST1.out)
  clear hres1 hNN hN hE hL hz1 hb1
  go_wp2_with fail
  refine HP.out.mono ?_
  rintro e w2 hval
  rw [HX.out] at hval
  have HST2 := Lib.hid hval.1
  have HK2 := Lib.hid (show Kp S X w w2 from (Kp.of_below HB1.out).trans (hval.2.2.1.mono fun k hk => .inl hk))
  have HR2 := Lib.hid (HRES.out.kp hval.2.2.1 (.inr (.inl rfl)) (.inr (.inr (.inl rfl))) (.inr (.inr (.inr rfl))))
  have HE := Lib.hid hval.2.2.2
  clear hval HP
  cases RES with
  | bad er n D2 =>
    obtain rfl := HE.out
    go_wp2
    refine leaves_cons (f := 34) (args := #[.pointer (some ⟨L, 0, none⟩), .pointer (some ⟨E, 0, none⟩), .pointer (some ⟨N, 0, none⟩)]) (by simp) (by simp [go_sem]) ?_
    refine (bad_exp L E N HN.out.2.2.1 HN.out.2.2.2.1 HN.out.2.2.2.2 _ _ _ HR2.out).mono ?_
    rintro e u' w9 ⟨rfl, rfl, hres, hfr, h1, h2, h3, h4⟩
    have hn := HN.out
    refine ⟨_, results_exp _ _ L E N _ _ _ rfl rfl rfl hres, rfl, (HST2.out.res HR2.out (by decide) (by decide) ⟨.inr (.inl rfl), by omega⟩ ⟨.inr (.inr (.inl rfl)), by omega⟩ ⟨.inr (.inr (.inr rfl)), by omega⟩ hfr h4).mono fun k hk => .inl hk, HK2.out.res (by omega) (by omega) (by omega) hfr h1 h2 h3 h4⟩
  | ok v D2 =>
    obtain rfl := HE.out
    have hres := HR2.out
    have c0 : w2.cell? ⟨L, 0, none⟩ = some (.string ⟨#[]⟩) := by rw [cell_of_row w2 L 0 _ _ (0, 0) hres.l]; rfl
    have c1 : w2.cell? ⟨E, 0, none⟩ = some (.int .i64 0) := by rw [cell_of_row w2 E 0 _ _ (0, 0) hres.e]; rfl
    have c2 : w2.cell? ⟨N, 0, none⟩ = some (.string ⟨#[]⟩) := by rw [cell_of_row w2 N 0 _ _ (0, 0) hres.n]; rfl
    have f0 : w2.frozen? ⟨L, 0, none⟩ = false := frozen_of_row w2 _ 0 _ _ hres.l
    have f1 : w2.frozen? ⟨E, 0, none⟩ = false := frozen_of_row w2 _ 0 _ _ hres.e
    have f2 : w2.frozen? ⟨N, 0, none⟩ = false := frozen_of_row w2 _ 0 _ _ hres.n
    have n1 : ¬ L = E := HN.out.2.2.1
    have n2 : ¬ L = N := HN.out.2.2.2.1
    have n3 : ¬ E = N := HN.out.2.2.2.2
    have n4 : ¬ E = L := fun e => HN.out.2.2.1 e.symm
    have n5 : ¬ N = L := fun e => HN.out.2.2.2.1 e.symm
    have n6 : ¬ N = E := fun e => HN.out.2.2.2.2 e.symm
    clear hres
    go_wp2_with fail
    obtain ⟨w9, hw9⟩ : ∃ w9, w9 = ((w2.setCell ⟨L, 0, none⟩ (.string (str v))).setCell ⟨E, 0, none⟩ (.int .i64 0)).setCell ⟨N, 0, none⟩ (.string ⟨#[]⟩) := ⟨_, rfl⟩
    obtain ⟨u1, u2⟩ := res_put8 HR2.out HN.out.2.2.1 HN.out.2.2.2.1 HN.out.2.2.2.2 _ _ _ w9 hw9
    rw [← hw9]
    refine leaves_cons (f := 34) (args := #[.pointer (some ⟨L, 0, none⟩), .pointer (some ⟨E, 0, none⟩), .pointer (some ⟨N, 0, none⟩)]) (by simp) (by simp [go_sem]) ?_
    refine (idle_exp L E N _).mono ?_
    rintro e u' wz ⟨rfl, rfl, rfl⟩
    have hn := HN.out
    have h4 : w2.heap.size ≤ wz.heap.size := by rw [hw9]; simp
    refine ⟨_, results_exp _ _ L E N _ _ _ rfl rfl rfl u1, rfl, (HST2.out.res HR2.out (by decide) (by decide) ⟨.inr (.inl rfl), by omega⟩ ⟨.inr (.inr (.inl rfl)), by omega⟩ ⟨.inr (.inr (.inr rfl)), by omega⟩ (fun k _ => u2 k) h4).mono fun k hk => .inl hk, HK2.out.res (by omega) (by omega) (by omega) (fun k _ => u2 k) (by rw [hw9]; rfl) (by rw [hw9]; rfl) (by rw [hw9]; rfl) h4⟩
end Go.Proofs.Ythfholnnkdoagaa
