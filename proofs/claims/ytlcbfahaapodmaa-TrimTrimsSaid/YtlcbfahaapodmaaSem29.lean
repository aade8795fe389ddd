/-
  Layer 29: what the steps mean: truths for what is left, and as they are grown. Own work.
-/
import Derived.Test.YtlcbfahaapodmaaTri29
namespace Go.Proofs.Ytlcbfahaapodmaa
set_option linter.unusedVariables false
set_option linter.unusedSimpArgs false

/-- a literal by truths of variables 1, 2, .. -/
def litT (f : Nat → Bool) (n : Int) : Bool := if n < 0 then !f n.natAbs else f n.natAbs
def holdC (f : Nat → Bool) (C : Cs) : Prop := ∀ c ∈ C, ∃ n ∈ c, litT f n = true
def updT (f : Nat → Bool) (n : Int) : Nat → Bool := fun v => if v = n.natAbs then decide (n > 0) else f v
/-- no literal is 0 -/
def NZ (C : Cs) : Prop := ∀ c ∈ C, ∀ n ∈ c, n ≠ 0
theorem litT_neg (f : Nat → Bool) {n : Int} (h : n ≠ 0) : litT f (-n) = !litT f n := by
  unfold litT
  rw [Int.natAbs_neg]
  by_cases h1 : n < 0
  · rw [if_pos h1, if_neg (by omega)]; simp
  · rw [if_neg h1, if_pos (by omega)]
theorem litT_upd (f : Nat → Bool) {n : Int} (h : n ≠ 0) : litT (updT f n) n = true := by
  unfold litT updT
  by_cases h1 : n < 0
  · rw [if_pos h1, if_pos rfl]; simp; omega
  · rw [if_neg h1, if_pos rfl]; simp; omega
theorem litT_upd_ne (f : Nat → Bool) {n m : Int} (h : m.natAbs ≠ n.natAbs) : litT (updT f n) m = litT f m := by
  unfold litT updT
  rw [if_neg h]
def VarsOf (C : Cs) (v : Nat) : Prop := ∃ c ∈ C, ∃ n ∈ c, n.natAbs = v
theorem holdC_congr {f g : Nat → Bool} {C : Cs} (h : ∀ v, VarsOf C v → f v = g v) (hf : holdC f C) : holdC g C := by
  intro c hc
  obtain ⟨n, hn, ht⟩ := hf c hc
  refine ⟨n, hn, ?_⟩
  have := h n.natAbs ⟨c, hc, n, hn, rfl⟩
  unfold litT at ht ⊢
  rw [← this]; exact ht
theorem fixC_mem {n : Int} {C : Cs} {d : List Int} : d ∈ fixC n C ↔ ∃ c ∈ C, n ∉ c ∧ d = c.filter fun x => x != -n := by
  unfold fixC
  constructor
  · intro h
    obtain ⟨c, hc, rfl⟩ := List.mem_map.1 h
    obtain ⟨h1, h2⟩ := List.mem_filter.1 hc
    exact ⟨c, h1, by simpa using h2, rfl⟩
  · rintro ⟨c, hc, hn, rfl⟩
    exact List.mem_map.2 ⟨c, List.mem_filter.2 ⟨hc, by simpa using hn⟩, rfl⟩
theorem fixC_vars {n : Int} {C : Cs} (v : Nat) (h : VarsOf (fixC n C) v) : VarsOf C v ∧ v ≠ n.natAbs := by
  obtain ⟨d, hd, m, hm, rfl⟩ := h
  obtain ⟨c, hc, hn, rfl⟩ := fixC_mem.1 hd
  obtain ⟨h1, h2⟩ := List.mem_filter.1 hm
  refine ⟨⟨c, hc, m, h1, rfl⟩, fun e => ?_⟩
  have hmn : m ≠ n := fun e => hn (e ▸ h1)
  have h3 : m ≠ -n := by simpa using h2
  omega
theorem fixC_NZ {n : Int} {C : Cs} (h : NZ C) : NZ (fixC n C) := by
  intro d hd m hm
  obtain ⟨c, hc, hn, rfl⟩ := fixC_mem.1 hd
  exact h c hc m (List.mem_filter.1 hm).1
/-- truths of what is left make all true, when n is true -/
theorem fixC_up {f : Nat → Bool} {n : Int} {C : Cs} (hn : litT f n = true) (h : holdC f (fixC n C)) : holdC f C := by
  intro c hc
  by_cases hm : n ∈ c
  · exact ⟨n, hm, hn⟩
  · obtain ⟨m, hm, ht⟩ := h _ (fixC_mem.2 ⟨c, hc, hm, rfl⟩)
    exact ⟨m, (List.mem_filter.1 hm).1, ht⟩
theorem fixC_down {f : Nat → Bool} {n : Int} {C : Cs} (hz : n ≠ 0) (hn : litT f n = true) (h : holdC f C) : holdC f (fixC n C) := by
  intro d hd
  obtain ⟨c, hc, hno, rfl⟩ := fixC_mem.1 hd
  obtain ⟨m, hm, ht⟩ := h c hc
  refine ⟨m, List.mem_filter.2 ⟨hm, ?_⟩, ht⟩
  have : m ≠ -n := by
    intro e
    subst e
    rw [litT_neg f hz, hn] at ht
    simp at ht
  simpa using this
theorem fixC_down_lone {f : Nat → Bool} {n : Int} {C : Cs} (hl : hasL C (-n) = false) (h : holdC f C) : holdC f (fixC n C) := by
  intro d hd
  obtain ⟨c, hc, hno, rfl⟩ := fixC_mem.1 hd
  obtain ⟨m, hm, ht⟩ := h c hc
  refine ⟨m, List.mem_filter.2 ⟨hm, ?_⟩, ht⟩
  have : m ≠ -n := by
    intro e
    subst e
    unfold hasL at hl
    have := (List.any_eq_false.1 hl) c hc
    simp [hm] at this
  simpa using this
theorem unit_true {f : Nat → Bool} {n : Int} {C : Cs} (hu : unitM C = some n) (h : holdC f C) : litT f n = true := by
  obtain ⟨m, hm, ht⟩ := h _ (unitM_spec hu)
  simp at hm
  subst hm
  exact ht
theorem hold_dd {f : Nat → Bool} {C : Cs} : holdC f (C.map dd) ↔ holdC f C := by
  constructor
  · intro h c hc
    obtain ⟨n, hn, ht⟩ := h _ (List.mem_map.2 ⟨c, hc, rfl⟩)
    exact ⟨n, (mem_dd c n).1 hn, ht⟩
  · intro h d hd
    obtain ⟨c, hc, rfl⟩ := List.mem_map.1 hd
    obtain ⟨n, hn, ht⟩ := h c hc
    exact ⟨n, (mem_dd c n).2 hn, ht⟩
theorem hold_taut {f : Nat → Bool} {C : Cs} (hz : NZ C) : holdC f (C.filter fun c => !taut c) ↔ holdC f C := by
  constructor
  · intro h c hc
    cases ht : taut c with
    | true =>
      obtain ⟨n, hn, hm⟩ := List.any_eq_true.1 ht
      have hm' : -n ∈ c := by simpa using hm
      cases hf : litT f n with
      | true => exact ⟨n, hn, hf⟩
      | false => exact ⟨-n, hm', by rw [litT_neg f (hz c hc n hn), hf]; rfl⟩
    | false => exact h c (List.mem_filter.2 ⟨hc, by simp [ht]⟩)
  · intro h c hc
    exact h c (List.mem_filter.1 hc).1
theorem mem_erase {C : Cs} {k : Nat} {c : List Int} (h : c ∈ C.eraseIdx k) : c ∈ C := List.mem_of_mem_eraseIdx h
theorem mem_erase_of {C : Cs} {k i : Nat} {c : List Int} (hi : C[i]? = some c) (hne : i ≠ k) : c ∈ C.eraseIdx k := by
  induction C generalizing i k with
  | nil => simp at hi
  | cons d C ih =>
    cases k with
    | zero =>
      match i, hne with
      | i + 1, _ => exact List.mem_of_getElem? (by simpa using hi)
    | succ k =>
      rw [List.eraseIdx_cons_succ]
      match i with
      | 0 => simp at hi; simp [hi]
      | i + 1 => exact List.mem_cons_of_mem _ (ih (by simpa using hi) (by omega))
theorem hold_cov {f : Nat → Bool} {C : Cs} {k : Nat} (hk : covM C = some k) : holdC f (C.eraseIdx k) ↔ holdC f C := by
  obtain ⟨i, hi, hkl, hc⟩ := covM_spec hk
  unfold covers at hc
  simp only [Bool.and_eq_true, bne_iff_ne, List.all_eq_true, decide_eq_true_eq] at hc
  obtain ⟨⟨hik, _⟩, hall⟩ := hc
  have ei : C.getD i [] = C[i] := by simp [List.getD, hi]
  have ek : C.getD k [] = C[k] := by simp [List.getD, hkl]
  constructor
  · intro h c hcm
    obtain ⟨j, hj⟩ := List.getElem?_of_mem hcm
    by_cases hjk : j = k
    · subst hjk
      have e2 : c = C[j] := by
        rw [List.getElem?_eq_getElem hkl] at hj
        simpa using hj.symm
      obtain ⟨n, hn, ht⟩ := h C[i] (mem_erase_of (List.getElem?_eq_getElem hi) hik)
      refine ⟨n, ?_, ht⟩
      have := hall n (by rw [ei]; exact hn)
      rw [ek] at this
      rw [e2]; exact this
    · exact h c (mem_erase_of hj hjk)
  · intro h c hcm
    exact h c (mem_erase hcm)

/-- what one step gives -/
theorem step_cases {vars : Nat} {s t : TS} (he : s.en = false) (h : stepM vars s = some t) :
    (t.fx = s.fx ∧ t.en = false ∧ (t.C = s.C.map dd ∨ t.C = s.C.filter (fun c => !taut c) ∨ ∃ k, covM s.C = some k ∧ t.C = s.C.eraseIdx k)) ∨
    (t.fx = s.fx ∧ t.en = true ∧ t.C = [[]] ∧ [] ∈ s.C) ∨
    (∃ n, t.fx = s.fx ++ [n] ∧ t.en = false ∧ t.C = fixC n s.C ∧ hasL s.C n = true ∧ (unitM s.C = some n ∨ hasL s.C (-n) = false)) := by
  unfold stepM at h
  split at h
  · simp only [Option.some.injEq] at h; subst h; exact .inl ⟨rfl, he, .inl rfl⟩
  · split at h
    · simp only [Option.some.injEq] at h; subst h; exact .inl ⟨rfl, he, .inr (.inl rfl)⟩
    · split at h
      · next h1 =>
        simp only [Option.some.injEq] at h
        subst h
        obtain ⟨c, hc, hn⟩ := List.any_eq_true.1 h1
        have : c = [] := by simpa using hn
        subst this
        exact .inr (.inl ⟨rfl, rfl, rfl, hc⟩)
      · split at h
        · next n hu =>
          simp only [Option.some.injEq] at h
          subst h
          exact .inr (.inr ⟨n, rfl, he, rfl, List.any_eq_true.2 ⟨[n], unitM_spec hu, by simp⟩, .inl hu⟩)
        · split at h
          · next n hu =>
            simp only [Option.some.injEq] at h
            subst h
            obtain ⟨h1, h2, _⟩ := loneM_spec hu
            exact .inr (.inr ⟨n, rfl, he, rfl, h1, .inr h2⟩)
          · cases hc : covM s.C with
            | none => rw [hc] at h; simp at h
            | some k =>
              rw [hc] at h
              simp only [Option.map_some, Option.some.injEq] at h
              subst h
              exact .inl ⟨rfl, he, .inr (.inr ⟨k, rfl, rfl⟩)⟩
theorem hasL_nz {C : Cs} {n : Int} (hz : NZ C) (h : hasL C n = true) : n ≠ 0 ∧ VarsOf C n.natAbs := by
  obtain ⟨c, hc, hn⟩ := List.any_eq_true.1 h
  have hn' : n ∈ c := by simpa using hn
  exact ⟨hz c hc n hn', ⟨c, hc, n, hn', rfl⟩⟩
theorem step_nz {vars : Nat} {s t : TS} (he : s.en = false) (h : stepM vars s = some t) (hz : NZ s.C) : NZ t.C := by
  rcases step_cases he h with ⟨_, _, h1 | h1 | ⟨k, _, h1⟩⟩ | ⟨_, _, h1, _⟩ | ⟨n, _, _, h1, _⟩ <;> rw [h1]
  · intro d hd n hn
    obtain ⟨c, hc, rfl⟩ := List.mem_map.1 hd
    exact hz c hc n ((mem_dd c n).1 hn)
  · intro c hc
    exact hz c (List.mem_filter.1 hc).1
  · intro c hc
    exact hz c (mem_erase hc)
  · intro c hc n hn
    simp at hc
    subst hc
    simp at hn
  · exact fixC_NZ hz
theorem step_vars {vars : Nat} {s t : TS} (he : s.en = false) (h : stepM vars s = some t) : ∀ v, VarsOf t.C v → VarsOf s.C v := by
  intro v
  rcases step_cases he h with ⟨_, _, h1 | h1 | ⟨k, _, h1⟩⟩ | ⟨_, _, h1, _⟩ | ⟨n, _, _, h1, _⟩ <;> rw [h1]
  · rintro ⟨d, hd, n, hn, rfl⟩
    obtain ⟨c, hc, rfl⟩ := List.mem_map.1 hd
    exact ⟨c, hc, n, (mem_dd c n).1 hn, rfl⟩
  · rintro ⟨c, hc, n, hn, rfl⟩
    exact ⟨c, (List.mem_filter.1 hc).1, n, hn, rfl⟩
  · rintro ⟨c, hc, n, hn, rfl⟩
    exact ⟨c, mem_erase hc, n, hn, rfl⟩
  · rintro ⟨c, hc, n, hn, rfl⟩
    simp at hc
    subst hc
    simp at hn
  · intro hv
    exact (fixC_vars v hv).1
/-- there are truths just if there are some for what is left -/
theorem step_some {vars : Nat} {s t : TS} (he : s.en = false) (h : stepM vars s = some t) (hz : NZ s.C) : (∃ f, holdC f s.C) ↔ ∃ f, holdC f t.C := by
  rcases step_cases he h with ⟨_, _, h1 | h1 | ⟨k, hk, h1⟩⟩ | ⟨_, _, h1, h2⟩ | ⟨n, _, _, h1, hl, h2⟩ <;> rw [h1]
  · exact ⟨fun ⟨f, hf⟩ => ⟨f, hold_dd.2 hf⟩, fun ⟨f, hf⟩ => ⟨f, hold_dd.1 hf⟩⟩
  · exact ⟨fun ⟨f, hf⟩ => ⟨f, (hold_taut hz).2 hf⟩, fun ⟨f, hf⟩ => ⟨f, (hold_taut hz).1 hf⟩⟩
  · exact ⟨fun ⟨f, hf⟩ => ⟨f, (hold_cov hk).2 hf⟩, fun ⟨f, hf⟩ => ⟨f, (hold_cov hk).1 hf⟩⟩
  · constructor
    · rintro ⟨f, hf⟩
      obtain ⟨n, hn, _⟩ := hf [] h2
      simp at hn
    · rintro ⟨f, hf⟩
      obtain ⟨n, hn, _⟩ := hf [] (by simp)
      simp at hn
  · obtain ⟨hn0, _⟩ := hasL_nz hz hl
    constructor
    · rintro ⟨f, hf⟩
      rcases h2 with h2 | h2
      · exact ⟨f, fixC_down hn0 (unit_true h2 hf) hf⟩
      · exact ⟨f, fixC_down_lone h2 hf⟩
    · rintro ⟨f, hf⟩
      refine ⟨updT f n, fixC_up (litT_upd f hn0) (holdC_congr (fun v hv => ?_) hf)⟩
      unfold updT
      rw [if_neg (fixC_vars v hv).2]
theorem steps_some {vars : Nat} {s t : TS} (h : StepsM vars s t) (hz : NZ s.C) : (∃ f, holdC f s.C) ↔ ∃ f, holdC f t.C := by
  induction h with
  | refl => exact Iff.rfl
  | next s a t he hs _ ih => exact (step_some he hs hz).trans (ih (step_nz he hs hz))
theorem steps_vars {vars : Nat} {s t : TS} (h : StepsM vars s t) : ∀ v, VarsOf t.C v → VarsOf s.C v := by
  induction h with
  | refl => exact fun v h => h
  | next s a t he hs _ ih => exact fun v hv => step_vars he hs v (ih v hv)
/-- what is fixed on the way: the literals' variables stand in the clauses, and in none of what is left -/
theorem steps_fx {vars : Nat} {s t : TS} (h : StepsM vars s t) (hz : NZ s.C) : ∃ r, t.fx = s.fx ++ r ∧ (∀ n ∈ r, n ≠ 0 ∧ VarsOf s.C n.natAbs) ∧
    ∀ f : Nat → Bool, holdC f t.C → holdC (r.foldl updT f) s.C := by
  induction h with
  | refl s => exact ⟨[], by simp, by simp, fun f hf => hf⟩
  | next s a t he hs h2 ih =>
    obtain ⟨r, hr, hv, hg⟩ := ih (step_nz he hs hz)
    rcases step_cases he hs with ⟨e1, _, h1 | h1 | ⟨k, hk, h1⟩⟩ | ⟨e1, _, h1, h3⟩ | ⟨n, e1, _, h1, hl, h3⟩
    · refine ⟨r, by rw [hr, e1], fun n hn => ⟨(hv n hn).1, step_vars he hs _ (hv n hn).2⟩, fun f hf => ?_⟩
      have := hg f hf
      rw [h1] at this
      exact hold_dd.1 this
    · refine ⟨r, by rw [hr, e1], fun n hn => ⟨(hv n hn).1, step_vars he hs _ (hv n hn).2⟩, fun f hf => ?_⟩
      have := hg f hf
      rw [h1] at this
      exact (hold_taut hz).1 this
    · refine ⟨r, by rw [hr, e1], fun n hn => ⟨(hv n hn).1, step_vars he hs _ (hv n hn).2⟩, fun f hf => ?_⟩
      have := hg f hf
      rw [h1] at this
      exact (hold_cov hk).1 this
    · refine ⟨r, by rw [hr, e1], fun n hn => ⟨(hv n hn).1, step_vars he hs _ (hv n hn).2⟩, fun f hf => ?_⟩
      have := hg f hf
      rw [h1] at this
      obtain ⟨n, hn, _⟩ := this [] (by simp)
      simp at hn
    · obtain ⟨hn0, hnv⟩ := hasL_nz hz hl
      refine ⟨n :: r, by rw [hr, e1]; simp, fun m hm => ?_, fun f hf => ?_⟩
      · rcases List.mem_cons.1 hm with rfl | hm
        · exact ⟨hn0, hnv⟩
        · exact ⟨(hv m hm).1, step_vars he hs _ (hv m hm).2⟩
      · rw [List.foldl_cons]
        have h4 : holdC (updT f n) t.C := holdC_congr (fun v hv => by
          have h5 := steps_vars h2 v hv
          rw [h1] at h5
          unfold updT
          rw [if_neg (fixC_vars v h5).2]) hf
        have h6 := hg _ h4
        rw [h1] at h6
        refine fixC_up ?_ h6
        have h7 : ∀ (l : List Int) (g : Nat → Bool), (∀ m ∈ l, n.natAbs ≠ m.natAbs) → litT (l.foldl updT g) n = litT g n := by
          intro l
          induction l with
          | nil => intro g _; rfl
          | cons m l ih =>
            intro g hm
            rw [List.foldl_cons, ih _ (fun x hx => hm x (by simp [hx])), litT_upd_ne _ (hm m (by simp))]
        rw [h7 r _ (fun m hm e => ?_)]
        · exact litT_upd f hn0
        · have h8 := (hv m hm).2
          rw [h1] at h8
          exact (fixC_vars _ h8).2 e.symm
end Go.Proofs.Ytlcbfahaapodmaa
