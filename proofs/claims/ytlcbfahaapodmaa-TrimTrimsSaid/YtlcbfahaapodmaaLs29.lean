/-
  Layer 29: what the steps keep. Own work.
-/
import Derived.Test.YtlcbfahaapodmaaLf29
namespace Go.Proofs.Ytlcbfahaapodmaa
set_option linter.unusedVariables false
set_option linter.unusedSimpArgs false

theorem fixS_alive {S : Ws} {n : Int} {i : Nat} (h : (fixS S n).G[i]? = some false) : S.G[i]? = some false := by
  have e := dropsS_gone { S with fx := S.fx ++ [n] } (S.st (posN S.vars n)) i
  have e' : (fixS S n).G[i]? = (S.G[i]?).map fun b => b || decide (i ∈ S.st (posN S.vars n)) := e
  rw [h] at e'
  cases hq : S.G[i]? with
  | none => rw [hq] at e'; simp at e'
  | some b =>
    rw [hq] at e'
    simp at e'
    rw [e'.1]
theorem fixS_same (S : Ws) (n : Int) : (fixS S n).L = S.L ∧ (fixS S n).vars = S.vars ∧ (fixS S n).st = S.st ∧ (fixS S n).fx = S.fx ++ [n] ∧ (fixS S n).pl = S.pl := by
  have h := dropsS_same { S with fx := S.fx ++ [n] } (S.st (posN S.vars n))
  exact ⟨h.1, h.2.1, h.2.2.1, h.2.2.2.1, h.2.2.2.2.1⟩
theorem Gd.fix {S : Ws} (h : Gd S) (n : Int) : Gd (fixS S n) := Gd.drops (S := { S with fx := S.fx ++ [n] }) ⟨h.gl, h.vars, h.lits, h.size, h.cnt⟩ _
theorem hasL_mem {C : Cs} {n : Int} : hasL C n = true ↔ ∃ c ∈ C, n ∈ c := by
  unfold hasL
  rw [List.any_eq_true]
  simp
theorem StI.fix {S : Ws} (h : StI S) (n : Int) : StI (fixS S n) := by
  obtain ⟨e1, e2, e3, _⟩ := fixS_same S n
  refine ⟨fun i c hc hg m hm => ?_, fun m hm k c hk hc hg => ?_, fun a k hk => ?_, fun a => ?_⟩
  · rw [e1] at hc
    rw [e3, e2]
    exact h.comp i c hc (fixS_alive hg) m hm
  · rw [e1] at hc
    rw [e3, e2] at hk
    refine h.sound m ?_ k c hk hc (fixS_alive hg)
    obtain ⟨d, hd, hmd⟩ := hasL_mem.1 hm
    obtain ⟨j, h1, h2⟩ := alive_mem.1 hd
    rw [e1] at h1
    exact hasL_mem.2 ⟨d, alive_mem.2 ⟨j, h1, fixS_alive h2⟩, hmd⟩
  · rw [e3] at hk
    rw [e1]
    exact h.lt a k hk
  · rw [e3]; exact h.up a
theorem alive_put {d : List Int} : ∀ {L : Cs} {G : List Bool} {i : Nat} {c : List Int}, L[i]? = some c → G[i]? = some false → ∃ A B, alive L G = A ++ c :: B ∧ alive (L.set i d) G = A ++ d :: B
  | e :: L, g :: G, 0, c, hc, hg => by
    simp at hc hg
    subst hc; subst hg
    exact ⟨[], alive L G, by simp [alive], by simp [alive]⟩
  | e :: L, g :: G, i + 1, c, hc, hg => by
    obtain ⟨A, B, h1, h2⟩ := alive_put (d := d) (L := L) (G := G) (i := i) (by simpa using hc) (by simpa using hg)
    cases g with
    | true => exact ⟨A, B, by simp [alive, h1], by simp [alive, h2]⟩
    | false => exact ⟨e :: A, B, by simp [alive, h1], by simp [alive, h2]⟩
  | [], _, _, _, hc, _ => by simp at hc
  | _ :: _, [], _, _, _, hg => by simp at hg
theorem occN_er (vars : Nat) {n : Int} (a : Nat) : ∀ {c : List Int}, n ∈ c → occN vars c a = occN vars (c.eraseIdx (c.idxOf n)) a + if posN vars n = a then 1 else 0
  | [], h => by simp at h
  | x :: c, h => by
    by_cases hx : x = n
    · subst hx
      have e : (x :: c).eraseIdx ((x :: c).idxOf x) = c := by simp
      rw [e]
      unfold occN
      rw [List.filter_cons]
      by_cases hp : posN vars x = a <;> simp [hp]
    · have hm : n ∈ c := by
        rcases List.mem_cons.1 h with h | h
        · exact absurd h.symm hx
        · exact h
      have ih := occN_er vars a hm
      rw [List.idxOf_cons, show (x == n) = false from by simpa using hx]
      show occN vars (x :: c) a = occN vars (x :: c.eraseIdx (c.idxOf n)) a + _
      unfold occN at ih ⊢
      rw [List.filter_cons, List.filter_cons]
      by_cases hp : posN vars x = a
      · simp only [hp, beq_self_eq_true, if_true, List.length_cons]; omega
      · have : (posN vars x == a) = false := by simpa using hp
        simp only [this, Bool.false_eq_true, if_false]
        exact ih
theorem size_set {d : List Int} : ∀ {L : Cs} {i : Nat} {c : List Int}, L[i]? = some c → d.length ≤ c.length → sizeC (L.set i d) ≤ sizeC L
  | e :: L, 0, c, hc, h => by
    simp at hc
    subst hc
    rw [List.set_cons_zero, sizeC_cons, sizeC_cons]
    omega
  | e :: L, i + 1, c, hc, h => by
    have := size_set (L := L) (i := i) (by simpa using hc) h
    rw [List.set_cons_succ, sizeC_cons, sizeC_cons]
    omega
  | [], _, _, hc, _ => by simp at hc
theorem Gd.cut {S : Ws} (h : Gd S) (n : Int) (k : Nat) : Gd (cutS n S k) := by
  unfold cutS
  by_cases hh : n ∈ S.L.getD k [] ∧ S.G.getD k false = false
  · rw [if_pos hh]
    have hk : k < S.L.length := by
      refine Classical.byContradiction fun hk => ?_
      have := hh.1
      simp [List.getD, List.getElem?_eq_none (Nat.not_lt.1 hk)] at this
    have hc : S.L[k]? = some (S.L.getD k []) := by simp [List.getD, hk]
    have hkG : k < S.G.length := by rw [h.gl]; exact hk
    have hg : S.G[k]? = some false := by
      have := hh.2
      simp only [List.getD, List.getElem?_eq_getElem hkG, Option.getD_some] at this
      rw [List.getElem?_eq_getElem hkG, this]
    have hel : ((S.L.getD k []).eraseIdx ((S.L.getD k []).idxOf n)).length ≤ (S.L.getD k []).length := by
      rw [List.length_eraseIdx]; split <;> omega
    refine ⟨by simpa using h.gl, h.vars, fun c hcm m hm => ?_, Nat.le_trans (size_set hc hel) h.size, fun a => ?_⟩
    · rcases List.mem_or_eq_of_mem_set hcm with hcm | rfl
      · exact h.lits c hcm m hm
      · exact h.lits _ (List.mem_of_getElem? hc) m (List.mem_of_mem_eraseIdx hm)
    · obtain ⟨A, B, h1, h2⟩ := alive_put (d := (S.L.getD k []).eraseIdx ((S.L.getD k []).idxOf n)) hc hg
      have h3 := h.cnt a
      have h4 := occN_er S.vars a hh.1
      rw [h1, sumN_app, sumN_cons] at h3
      show (if a = posN S.vars n then S.cn a - 1 else S.cn a) = (sumN S.vars (alive (S.L.set k _) S.G) a : Int)
      rw [h2, sumN_app, sumN_cons, h3]
      by_cases hp : posN S.vars n = a
      · rw [if_pos hp.symm]
        rw [if_pos hp] at h4
        omega
      · rw [if_neg (fun e => hp e.symm)]
        rw [if_neg hp] at h4
        omega
  · rw [if_neg hh]; exact h
theorem Gd.cuts {S : Ws} (h : Gd S) (n : Int) (l : List Nat) : Gd (cutsS n S l) := by
  induction l using snoc_ind with
  | h0 => exact h
  | h1 l k ih => rw [cutsS_snoc]; exact ih.cut n k
theorem Gd.single {S : Ws} (h : Gd S) (n : Int) : Gd (singleS S n) :=
  Gd.cuts (S := { fixS S n with ns := S.ns + 1 }) ⟨(h.fix n).gl, (h.fix n).vars, (h.fix n).lits, (h.fix n).size, (h.fix n).cnt⟩ (-n) _
theorem singleS_same (S : Ws) (n : Int) (hu : (S.st (posN S.vars (-n))).Nodup) : (singleS S n).vars = S.vars ∧ (singleS S n).st = S.st ∧ (singleS S n).pl = S.pl ∧ (singleS S n).G = (fixS S n).G ∧ (singleS S n).L.length = S.L.length ∧
    ∀ j, (singleS S n).L[j]? = (S.L[j]?).map fun c => if j ∈ S.st (posN S.vars (-n)) ∧ (fixS S n).G.getD j false = false then er (-n) c else c := by
  obtain ⟨e1, e2, e3, _, e5⟩ := fixS_same S n
  have hs : ∀ (l : List Nat) (T : Ws), (cutsS (-n) T l).L.length = T.L.length ∧ (cutsS (-n) T l).vars = T.vars ∧ (cutsS (-n) T l).st = T.st ∧ (cutsS (-n) T l).pl = T.pl := fun l T => by
    induction l using snoc_ind with
    | h0 => exact ⟨rfl, rfl, rfl, rfl⟩
    | h1 l k ih =>
      rw [cutsS_snoc]
      obtain ⟨a1, a2, a3, _, a5⟩ := cutS_same (-n) (cutsS (-n) T l) k
      exact ⟨a1.trans ih.1, a2.trans ih.2.1, a3.trans ih.2.2.1, a5.trans ih.2.2.2⟩
  have hc := fun j => cutsS_L (-n) { fixS S n with ns := S.ns + 1 } (S.st (posN S.vars (-n))) hu j
  obtain ⟨b1, b2, b3, b4⟩ := hs (S.st (posN S.vars (-n))) { fixS S n with ns := S.ns + 1 }
  refine ⟨b2.trans e2, b3.trans e3, b4.trans e5, (hc 0).2, b1.trans (congrArg List.length e1), fun j => ?_⟩
  have h1 := (hc j).1
  rw [show ({ fixS S n with ns := S.ns + 1 } : Ws).L = S.L from e1] at h1
  exact h1
theorem er_sub {n m : Int} {c : List Int} (h : m ∈ er n c) : m ∈ c := by
  unfold er at h
  split at h
  · exact List.mem_of_mem_eraseIdx h
  · exact h
theorem fixC_hasL {n m : Int} {C : Cs} (h : hasL (fixC n C) m = true) : hasL C m = true ∧ m ≠ -n ∧ m ≠ n := by
  obtain ⟨d, hd, hm⟩ := hasL_mem.1 h
  obtain ⟨c, hc, hn, rfl⟩ := fixC_mem.1 hd
  obtain ⟨h1, h2⟩ := List.mem_filter.1 hm
  exact ⟨hasL_mem.2 ⟨c, hc, h1⟩, by simpa using h2, fun e => hn (e ▸ h1)⟩
theorem StI.single {S : Ws} (hg : Gd S) (h : StI S) (hd : ∀ c ∈ alive S.L S.G, c.Nodup) {n : Int} (hn : hasL (alive S.L S.G) n = true) : StI (singleS S n) := by
  have hu : (S.st (posN S.vars (-n))).Nodup := (h.up _).imp (fun h => Nat.ne_of_lt h)
  obtain ⟨e1, e2, _, e4, e5, e6⟩ := singleS_same S n hu
  have hal := alive_single hg h hd hn
  have back : ∀ (i : Nat) c, (singleS S n).L[i]? = some c → ∃ d, S.L[i]? = some d ∧ (c = d ∨ c = er (-n) d) := fun i c hc => by
    rw [e6 i] at hc
    cases hq : S.L[i]? with
    | none => rw [hq] at hc; simp at hc
    | some d =>
      rw [hq] at hc
      simp only [Option.map_some, Option.some.injEq] at hc
      refine ⟨d, rfl, ?_⟩
      split at hc
      · exact .inr hc.symm
      · exact .inl hc.symm
  refine ⟨fun i c hc hgi m hm => ?_, fun m hm k c hk hc hgk => ?_, fun a k hk => ?_, fun a => ?_⟩
  · rw [e4] at hgi
    obtain ⟨d, h1, h2⟩ := back i c hc
    rw [e2, e1]
    refine h.comp i d h1 (fixS_alive hgi) m ?_
    rcases h2 with rfl | rfl
    · exact hm
    · exact er_sub hm
  · rw [e4] at hgk
    rw [e2, e1] at hk
    rw [hal] at hm
    obtain ⟨m1, m2, _⟩ := fixC_hasL hm
    obtain ⟨d, h1, h2⟩ := back k c hc
    have h3 := h.sound m m1 k d hk h1 (fixS_alive hgk)
    rcases h2 with rfl | rfl
    · exact h3
    · rw [er_filter (hd d (alive_mem.2 ⟨k, h1, fixS_alive hgk⟩))]
      exact List.mem_filter.2 ⟨h3, by simpa using m2⟩
  · rw [e2] at hk
    rw [e5]
    exact h.lt a k hk
  · rw [e2]; exact h.up a
/-- what the first two steps leave, and the later ones keep -/
def Pln (C : Cs) : Prop := (∀ c ∈ C, c.Nodup) ∧ ∀ c ∈ C, taut c = false
theorem taut_sub {c d : List Int} (h : ∀ x ∈ c, x ∈ d) (hd : taut d = false) : taut c = false := by
  unfold taut at hd ⊢
  rw [List.any_eq_false] at hd ⊢
  intro x hx
  have := hd x (h x hx)
  simp at this ⊢
  exact fun hm => this (h _ hm)
theorem Pln.fixC {C : Cs} (h : Pln C) (n : Int) : Pln (fixC n C) := by
  refine ⟨fun d hd => ?_, fun d hd => ?_⟩
  · obtain ⟨c, hc, _, rfl⟩ := fixC_mem.1 hd
    exact (h.1 c hc).filter _
  · obtain ⟨c, hc, _, rfl⟩ := fixC_mem.1 hd
    exact taut_sub (fun x hx => (List.mem_filter.1 hx).1) (h.2 c hc)
theorem Pln.erase {C : Cs} (h : Pln C) (k : Nat) : Pln (C.eraseIdx k) := ⟨fun c hc => h.1 c (mem_erase hc), fun c hc => h.2 c (mem_erase hc)⟩
/-- behind the first two steps: which step comes -/
theorem stepM_pln {vars : Nat} {s : TS} (h : Pln s.C) : stepM vars s = (if s.C.any (fun c => c.isEmpty) then some { s with C := [[]], en := true }
    else match unitM s.C with
      | some n => some { C := fixC n s.C, fx := s.fx ++ [n], sg := s.sg + 1, en := s.en }
      | none => match loneM vars s.C with
        | some n => some { s with C := fixC n s.C, fx := s.fx ++ [n] }
        | none => (covM s.C).map fun k => { s with C := s.C.eraseIdx k }) := by
  have h1 : ¬ (s.C.any (fun c => !decide c.Nodup) = true) := fun h1 => by
    obtain ⟨c, hc, h2⟩ := List.any_eq_true.1 h1
    have := h.1 c hc
    simp [this] at h2
  have h2 : ¬ (s.C.any taut = true) := fun h1 => by
    obtain ⟨c, hc, h2⟩ := List.any_eq_true.1 h1
    rw [h.2 c hc] at h2
    cases h2
  unfold stepM
  rw [if_neg h1, if_neg h2]
  rfl
end Go.Proofs.Ytlcbfahaapodmaa
