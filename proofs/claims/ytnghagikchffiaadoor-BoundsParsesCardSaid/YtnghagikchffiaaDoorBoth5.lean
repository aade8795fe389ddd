/-
  Layer 5: what the meeting of two ranges has, and that it may be: plain mathematics. Own work.
-/
import Derived.Test.YtnghagikchffiaaDoorMay5
import Derived.Test.YtnghagikchffiaaDoorSame5
namespace Go.Proofs.YtnghagikchffiaaDoor
set_option linter.unusedVariables false
set_option linter.unusedSimpArgs false
open Go.RowKit

/-- the tighter one of two ends: way 1 of two fronts, -1 of two ends -/
def tightE (a b : En) (way : Int) : En :=
  if !b.has then a else if !a.has then b else if way * cE a b < 0 ∨ (way * cE a b = 0 ∧ (a.cl && !b.cl) = true) then b else a
def meetI (p q : Iv) : Iv := ⟨tightE p.lo q.lo 1, tightE p.hi q.hi (-1)⟩
def keepI (m : Iv) : Bool := !m.lo.has || !m.hi.has || someB m.lo m.hi
def meetRow (p : Iv) (m : List Iv) : List Iv := (m.map (meetI p)).filter keepI
def meetL (l m : List Iv) : List Iv := l.flatMap fun p => meetRow p m
def loB (e : En) (v : ByteArray) : Bool := !e.has || someB e (atE v)
def hiB (e : En) (v : ByteArray) : Bool := !e.has || someB (atE v) e
theorem inB_eq (p : Iv) (v : ByteArray) : inB p v = (loB p.lo v && hiB p.hi v) := rfl
theorem lo_le {a b : En} (v : ByteArray) (ha : a.has = true) (hb : b.has = true) (h : cE a b < 0 ∨ (cE a b = 0 ∧ (b.cl = true → a.cl = true))) (hv : loB b v = true) : loB a v = true := by
  unfold loB someB atE at *
  rw [hb] at hv
  rw [ha]
  simp only [Bool.not_true, Bool.false_or, Bool.and_true, Bool.or_eq_true, Bool.and_eq_true, decide_eq_true_eq] at hv ⊢
  unfold cE at *
  simp only at hv ⊢
  have rav := cmpB_ord.rng a.ver.data.toList v.data.toList
  have nab := cmpB_ord.neg a.ver.data.toList b.ver.data.toList
  have nav := cmpB_ord.neg a.ver.data.toList v.data.toList
  have nbv := cmpB_ord.neg b.ver.data.toList v.data.toList
  have t1 := cmpB_ord.trans a.ver.data.toList b.ver.data.toList v.data.toList (by omega) (by omega)
  have t5 := cmpB_ord.trans v.data.toList a.ver.data.toList b.ver.data.toList
  have t6 := cmpB_ord.trans b.ver.data.toList v.data.toList a.ver.data.toList
  by_cases hz : cmpB a.ver.data.toList v.data.toList < 0
  · exact .inl hz
  · have e1 := t5 (by omega)
    have e2 := t6 (by omega) (by omega)
    right
    refine ⟨by omega, ?_⟩
    rcases h with h | h
    · omega
    · have := t5 (by omega)
      rcases hv with hv | hv
      · exfalso
        have := cmpB_ord.trans v.data.toList a.ver.data.toList b.ver.data.toList (by omega) (by omega)
        omega
      · exact h.2 hv.2
theorem hi_ge {a b : En} (v : ByteArray) (ha : a.has = true) (hb : b.has = true) (h : cE b a < 0 ∨ (cE b a = 0 ∧ (b.cl = true → a.cl = true))) (hv : hiB b v = true) : hiB a v = true := by
  unfold hiB someB atE at *
  rw [hb] at hv
  rw [ha]
  simp only [Bool.not_true, Bool.false_or, Bool.true_and, Bool.or_eq_true, Bool.and_eq_true, decide_eq_true_eq] at hv ⊢
  unfold cE at *
  simp only at hv ⊢
  have rav := cmpB_ord.rng v.data.toList a.ver.data.toList
  have nab := cmpB_ord.neg b.ver.data.toList a.ver.data.toList
  have nav := cmpB_ord.neg v.data.toList a.ver.data.toList
  have nbv := cmpB_ord.neg v.data.toList b.ver.data.toList
  have t1 := cmpB_ord.trans v.data.toList b.ver.data.toList a.ver.data.toList (by omega) (by omega)
  have t5 := cmpB_ord.trans b.ver.data.toList a.ver.data.toList v.data.toList (by omega)
  have t6 := cmpB_ord.trans a.ver.data.toList v.data.toList b.ver.data.toList
  by_cases hz : cmpB v.data.toList a.ver.data.toList < 0
  · exact .inl hz
  · have e1 := t5 (by omega)
    have e2 := t6 (by omega) (by omega)
    right
    refine ⟨by omega, ?_⟩
    rcases h with h | h
    · omega
    · rcases hv with hv | hv
      · omega
      · exact h.2 hv.2
theorem lo_tight (a b : En) (v : ByteArray) : loB (tightE a b 1) v = (loB a v && loB b v) := by
  unfold tightE
  cases hb : b.has
  · simp [loB, hb]
  cases ha : a.has
  · simp [loB, ha]
  simp only [Bool.not_true, Bool.false_eq_true, if_false, Int.one_mul]
  have n := cmpB_ord.neg a.ver.data.toList b.ver.data.toList
  split
  · rename_i hc
    have := lo_le v ha hb (by
      rcases hc with hc | hc
      · exact .inl hc
      · exact .inr ⟨hc.1, by simp at hc; simp [hc.2.1]⟩)
    cases h1 : loB b v
    · simp
    · rw [this h1]; rfl
  · rename_i hc
    have := lo_le (a := b) (b := a) v hb ha (by
      unfold cE at *
      by_cases h0 : cmpB b.ver.data.toList a.ver.data.toList < 0
      · exact .inl h0
      · refine .inr ⟨by omega, fun hac => ?_⟩
        cases hbc : b.cl
        · exact absurd (.inr ⟨by omega, by rw [hac, hbc]; rfl⟩) hc
        · rfl)
    cases h1 : loB a v
    · simp
    · rw [this h1]; rfl
theorem hi_tight (a b : En) (v : ByteArray) : hiB (tightE a b (-1)) v = (hiB a v && hiB b v) := by
  unfold tightE
  cases hb : b.has
  · simp [hiB, hb]
  cases ha : a.has
  · simp [hiB, ha]
  simp only [Bool.not_true, Bool.false_eq_true, if_false]
  have n := cmpB_ord.neg a.ver.data.toList b.ver.data.toList
  split
  · rename_i hc
    have := hi_ge (a := a) (b := b) v ha hb (by
      unfold cE at *
      rcases hc with hc | hc
      · exact .inl (by omega)
      · exact .inr ⟨by omega, by simp at hc; simp [hc.2.1]⟩)
    cases h1 : hiB b v
    · simp
    · rw [this h1]; rfl
  · rename_i hc
    have := hi_ge (a := b) (b := a) v hb ha (by
      unfold cE at *
      by_cases h0 : cmpB a.ver.data.toList b.ver.data.toList < 0
      · exact .inl h0
      · refine .inr ⟨by omega, fun hac => ?_⟩
        cases hbc : b.cl
        · exact absurd (.inr ⟨by omega, by rw [hac, hbc]; rfl⟩) hc
        · rfl)
    cases h1 : hiB a v
    · simp
    · rw [this h1]; rfl
theorem in_meet (p q : Iv) (v : ByteArray) : inB (meetI p q) v = (inB p v && inB q v) := by
  rw [inB_eq, inB_eq, inB_eq]
  unfold meetI
  simp only
  rw [lo_tight, hi_tight]
  cases loB p.lo v <;> cases loB q.lo v <;> cases hiB p.hi v <;> cases hiB q.hi v <;> rfl
/-- what has anything in it is kept -/
theorem in_keep {m : Iv} {v : ByteArray} (h : inB m v = true) : keepI m = true := by
  unfold keepI
  rw [inB_eq] at h
  unfold loB hiB at h
  cases hl : m.lo.has
  · simp
  cases hh : m.hi.has
  · simp
  rw [hl, hh] at h
  simp only [Bool.not_true, Bool.false_or] at h ⊢
  unfold someB cE atE at *
  simp only [Bool.and_true, Bool.true_and, Bool.and_eq_true, Bool.or_eq_true, decide_eq_true_eq] at h ⊢
  obtain ⟨h1, h2⟩ := h
  have r1 := cmpB_ord.rng m.lo.ver.data.toList m.hi.ver.data.toList
  have n1 := cmpB_ord.neg m.lo.ver.data.toList v.data.toList
  have n2 := cmpB_ord.neg v.data.toList m.hi.ver.data.toList
  have n3 := cmpB_ord.neg m.lo.ver.data.toList m.hi.ver.data.toList
  have t1 := cmpB_ord.trans m.lo.ver.data.toList v.data.toList m.hi.ver.data.toList
  have t2 := cmpB_ord.trans m.hi.ver.data.toList m.lo.ver.data.toList v.data.toList
  have t3 := cmpB_ord.trans v.data.toList m.hi.ver.data.toList m.lo.ver.data.toList
  rcases h1 with h1 | ⟨h1, c1⟩
  · left
    have := t1 (by omega)
    have : ¬ cmpB m.hi.ver.data.toList m.lo.ver.data.toList ≤ 0 := fun hc => by
      have := t3 (by rcases h2 with h2 | h2 <;> omega) hc
      omega
    omega
  · rcases h2 with h2 | ⟨h2, c2⟩
    · left
      have : ¬ cmpB m.hi.ver.data.toList m.lo.ver.data.toList ≤ 0 := fun hc => by
        have := t2 hc (by omega)
        omega
      omega
    · have : cmpB m.lo.ver.data.toList m.hi.ver.data.toList ≤ 0 := t1 (by omega) (by omega)
      rcases r1 with r1 | r1 | r1
      · left; omega
      · right; exact ⟨r1, c1, c2⟩
      · omega
theorem any_row (p : Iv) (m : List Iv) (v : ByteArray) : (meetRow p m).any (fun x => inB x v) = (inB p v && m.any fun q => inB q v) := by
  unfold meetRow
  induction m with
  | nil => simp
  | cons q r ih =>
    rw [List.map_cons, List.filter_cons]
    have hi := in_meet p q v
    cases hk : keepI (meetI p q)
    · have hno : inB (meetI p q) v = false := by
        cases hc : inB (meetI p q) v
        · rfl
        · rw [in_keep hc] at hk; cases hk
      simp only [Bool.false_eq_true, if_false, List.any_cons]
      rw [ih]
      rw [hno] at hi
      cases h1 : inB p v
      · rfl
      · rw [h1, Bool.true_and] at hi
        rw [← hi, Bool.false_or]
    · simp only [if_true, List.any_cons]
      rw [ih, hi]
      cases inB p v <;> cases inB q v <;> simp
theorem any_meet (l m : List Iv) (v : ByteArray) : (meetL l m).any (fun x => inB x v) = (l.any (fun p => inB p v) && m.any fun q => inB q v) := by
  unfold meetL
  induction l with
  | nil => simp
  | cons p r ih =>
    rw [List.flatMap_cons, List.any_append, List.any_cons, any_row, ih]
    cases inB p v
    · simp
    · cases r.any (fun p => inB p v) <;> cases m.any (fun q => inB q v) <;> rfl
/-- rows whose intervals may each be and lie apart, each from all behind it -/
def Apart (l : List Iv) : Prop := l.Pairwise fun p q => apartB p.hi q.lo = true
theorem okI_some {p : Iv} (h : okI p = true) (h1 : p.lo.has = true) (h2 : p.hi.has = true) : someB p.lo p.hi = true := by
  unfold okI at h
  rw [h1, h2] at h
  simp at h
  exact h.2
theorem apart_some_apart {e f g i : En} (h1 : apartB e f = true) (h2 : f.has = true → g.has = true → someB f g = true) (h3 : apartB g i = true) : apartB e i = true := by
  unfold apartB at *
  simp only [Bool.and_eq_true, Bool.or_eq_true, decide_eq_true_eq, Bool.not_eq_true'] at *
  obtain ⟨⟨a1, a2⟩, a3⟩ := h1
  obtain ⟨⟨b1, b2⟩, b3⟩ := h3
  have h := h2 a2 b1
  unfold someB at h
  unfold cE at *
  simp only [Bool.and_eq_true, Bool.or_eq_true, decide_eq_true_eq] at h
  refine ⟨⟨a1, b2⟩, ?_⟩
  have r := cmpB_ord.rng e.ver.data.toList i.ver.data.toList
  have n1 := cmpB_ord.neg e.ver.data.toList i.ver.data.toList
  have n2 := cmpB_ord.neg e.ver.data.toList f.ver.data.toList
  have n3 := cmpB_ord.neg f.ver.data.toList g.ver.data.toList
  have n4 := cmpB_ord.neg g.ver.data.toList i.ver.data.toList
  have t1 := cmpB_ord.trans f.ver.data.toList g.ver.data.toList i.ver.data.toList (by omega) (by omega)
  have t2 := cmpB_ord.trans e.ver.data.toList f.ver.data.toList i.ver.data.toList (by omega) t1
  by_cases hlt : cmpB e.ver.data.toList i.ver.data.toList < 0
  · exact .inl hlt
  · right
    have hz : cmpB e.ver.data.toList i.ver.data.toList = 0 := by omega
    refine ⟨hz, ?_⟩
    have u1 := cmpB_ord.trans i.ver.data.toList e.ver.data.toList f.ver.data.toList (by omega) (by omega)
    have n5 := cmpB_ord.neg f.ver.data.toList i.ver.data.toList
    have u2 := cmpB_ord.trans g.ver.data.toList i.ver.data.toList f.ver.data.toList (by omega) u1
    have u3 := cmpB_ord.trans f.ver.data.toList i.ver.data.toList e.ver.data.toList t1 (by omega)
    have u4 := cmpB_ord.trans i.ver.data.toList f.ver.data.toList g.ver.data.toList u1 (by omega)
    have e1 : cmpB e.ver.data.toList f.ver.data.toList = 0 := by omega
    have e2 : cmpB f.ver.data.toList g.ver.data.toList = 0 := by omega
    have e3 : cmpB g.ver.data.toList i.ver.data.toList = 0 := by omega
    rcases h with h | h
    · omega
    rcases a3 with a3 | a3
    · omega
    rcases b3 with b3 | b3
    · omega
    have hf := h.2.1
    have ha := a3.2
    rw [hf, Bool.and_true] at ha
    rw [ha]
    rfl
theorem okRow_apart : ∀ {l : List Iv}, okRow l = true → (∀ p ∈ l, okI p = true) ∧ Apart l
  | [], _ => ⟨by simp, .nil⟩
  | [p], h => ⟨by simpa [okRow] using h, by unfold Apart; simp⟩
  | p :: q :: r, h => by
    simp only [okRow, Bool.and_eq_true] at h
    obtain ⟨⟨h1, h2⟩, h3⟩ := h
    obtain ⟨i1, i2⟩ := okRow_apart h3
    refine ⟨fun x hx => ?_, ?_⟩
    · rcases List.mem_cons.1 hx with rfl | hx
      · exact h1
      · exact i1 x hx
    · refine List.pairwise_cons.2 ⟨fun x hx => ?_, i2⟩
      rcases List.mem_cons.1 hx with rfl | hx
      · exact h2
      · have := (List.pairwise_cons.1 i2).1 x hx
        exact apart_some_apart h2 (fun a b => okI_some (i1 q (by simp)) a b) this
theorem apart_okRow : ∀ {l : List Iv}, (∀ p ∈ l, okI p = true) → Apart l → okRow l = true
  | [], _, _ => rfl
  | [p], h, _ => by simpa [okRow] using h
  | p :: q :: r, h, ha => by
    simp only [okRow, Bool.and_eq_true]
    obtain ⟨h1, h2⟩ := List.pairwise_cons.1 ha
    exact ⟨⟨h p (by simp), h1 q (by simp)⟩, apart_okRow (fun x hx => h x (by simp [hx])) h2⟩
theorem tight_or (a b : En) (way : Int) : tightE a b way = a ∨ tightE a b way = b := by
  unfold tightE
  split
  · exact .inl rfl
  split
  · exact .inr rfl
  split
  · exact .inr rfl
  · exact .inl rfl
/-- an end of the meeting lies not above either -/
theorem apart_hi_left {a b f : En} (h : apartB a f = true) : apartB (tightE a b (-1)) f = true := by
  unfold tightE
  split
  · exact h
  rename_i hb
  split
  · rename_i ha
    unfold apartB at h
    simp at ha
    rw [ha] at h
    simp at h
  rename_i ha
  split
  · rename_i hc
    unfold apartB at *
    unfold cE at *
    simp only [Bool.and_eq_true, Bool.or_eq_true, decide_eq_true_eq, Bool.not_eq_true', Bool.not_eq_eq_eq_not, Bool.not_true, Bool.not_eq_false] at *
    obtain ⟨⟨a1, a2⟩, a3⟩ := h
    refine ⟨⟨hb, a2⟩, ?_⟩
    have n0 := cmpB_ord.neg a.ver.data.toList b.ver.data.toList
    have n1 := cmpB_ord.neg a.ver.data.toList f.ver.data.toList
    have n2 := cmpB_ord.neg b.ver.data.toList f.ver.data.toList
    have t1 := cmpB_ord.trans b.ver.data.toList a.ver.data.toList f.ver.data.toList (by omega) (by omega)
    have t2 := cmpB_ord.trans a.ver.data.toList f.ver.data.toList b.ver.data.toList (by omega)
    have t3 := cmpB_ord.trans f.ver.data.toList b.ver.data.toList a.ver.data.toList
    by_cases hlt : cmpB b.ver.data.toList f.ver.data.toList < 0
    · exact .inl hlt
    · right
      have hz : cmpB b.ver.data.toList f.ver.data.toList = 0 := by omega
      have := t2 (by omega)
      have := t3 (by omega) (by omega)
      rcases hc with hc | hc
      · omega
      · refine ⟨hz, ?_⟩
        rw [hc.2.2]; rfl
  · exact h
theorem apart_hi_right {a b f : En} (h : apartB b f = true) : apartB (tightE a b (-1)) f = true := by
  unfold tightE
  split
  · rename_i hb
    unfold apartB at h
    simp at hb
    rw [hb] at h
    simp at h
  rename_i hb
  split
  · exact h
  rename_i ha
  split
  · exact h
  · rename_i hc
    unfold apartB at *
    unfold cE at *
    simp only [Bool.and_eq_true, Bool.or_eq_true, decide_eq_true_eq, Bool.not_eq_true', Bool.not_eq_eq_eq_not, Bool.not_true, Bool.not_eq_false, not_or, not_and] at *
    obtain ⟨⟨a1, a2⟩, a3⟩ := h
    obtain ⟨c1, c2⟩ := hc
    refine ⟨⟨ha, a2⟩, ?_⟩
    have n0 := cmpB_ord.neg a.ver.data.toList b.ver.data.toList
    have n1 := cmpB_ord.neg a.ver.data.toList f.ver.data.toList
    have n2 := cmpB_ord.neg b.ver.data.toList f.ver.data.toList
    have t1 := cmpB_ord.trans a.ver.data.toList b.ver.data.toList f.ver.data.toList (by omega) (by omega)
    have t2 := cmpB_ord.trans b.ver.data.toList f.ver.data.toList a.ver.data.toList (by omega)
    have t3 := cmpB_ord.trans f.ver.data.toList a.ver.data.toList b.ver.data.toList
    by_cases hlt : cmpB a.ver.data.toList f.ver.data.toList < 0
    · exact .inl hlt
    · right
      have hz : cmpB a.ver.data.toList f.ver.data.toList = 0 := by omega
      have e1 := t2 (by omega)
      have e2 := t3 (by omega) (by omega)
      refine ⟨hz, ?_⟩
      cases hac : a.cl
      · rfl
      · have hbc := c2 (by omega) hac
        rcases a3 with a3 | a3
        · omega
        · have := a3.2
          cases hbb : b.cl
          · rw [hbb] at hbc; simp at hbc
          · rw [hbb] at this; simpa using this
theorem apart_lo_left {a b e : En} (h : apartB e a = true) : apartB e (tightE a b 1) = true := by
  unfold tightE
  split
  · exact h
  rename_i hb
  split
  · rename_i ha
    unfold apartB at h
    simp at ha
    rw [ha] at h
    simp at h
  rename_i ha
  split
  · rename_i hc
    unfold apartB at *
    unfold cE at *
    simp only [Bool.and_eq_true, Bool.or_eq_true, decide_eq_true_eq, Bool.not_eq_true', Bool.not_eq_eq_eq_not, Bool.not_true, Bool.not_eq_false, Int.one_mul] at *
    obtain ⟨⟨a1, a2⟩, a3⟩ := h
    refine ⟨⟨a1, hb⟩, ?_⟩
    have n0 := cmpB_ord.neg a.ver.data.toList b.ver.data.toList
    have n1 := cmpB_ord.neg e.ver.data.toList a.ver.data.toList
    have n2 := cmpB_ord.neg e.ver.data.toList b.ver.data.toList
    have t1 := cmpB_ord.trans e.ver.data.toList a.ver.data.toList b.ver.data.toList (by omega) (by omega)
    have t2 := cmpB_ord.trans b.ver.data.toList e.ver.data.toList a.ver.data.toList
    have t3 := cmpB_ord.trans a.ver.data.toList b.ver.data.toList e.ver.data.toList
    by_cases hlt : cmpB e.ver.data.toList b.ver.data.toList < 0
    · exact .inl hlt
    · right
      have hz : cmpB e.ver.data.toList b.ver.data.toList = 0 := by omega
      have := t2 (by omega) (by omega)
      rcases hc with hc | hc
      · omega
      · refine ⟨hz, ?_⟩
        rw [hc.2.2, Bool.and_false]
  · exact h
theorem apart_lo_right {a b e : En} (h : apartB e b = true) : apartB e (tightE a b 1) = true := by
  unfold tightE
  split
  · rename_i hb
    unfold apartB at h
    simp at hb
    rw [hb] at h
    simp at h
  rename_i hb
  split
  · exact h
  rename_i ha
  split
  · exact h
  · rename_i hc
    unfold apartB at *
    unfold cE at *
    simp only [Bool.and_eq_true, Bool.or_eq_true, decide_eq_true_eq, Bool.not_eq_true', Bool.not_eq_eq_eq_not, Bool.not_true, Bool.not_eq_false, not_or, not_and, Int.one_mul] at *
    obtain ⟨⟨a1, a2⟩, a3⟩ := h
    obtain ⟨c1, c2⟩ := hc
    refine ⟨⟨a1, ha⟩, ?_⟩
    have n0 := cmpB_ord.neg a.ver.data.toList b.ver.data.toList
    have n1 := cmpB_ord.neg e.ver.data.toList a.ver.data.toList
    have n2 := cmpB_ord.neg e.ver.data.toList b.ver.data.toList
    have t1 := cmpB_ord.trans e.ver.data.toList b.ver.data.toList a.ver.data.toList (by omega) (by omega)
    have t2 := cmpB_ord.trans a.ver.data.toList e.ver.data.toList b.ver.data.toList
    have t3 := cmpB_ord.trans b.ver.data.toList a.ver.data.toList e.ver.data.toList
    by_cases hlt : cmpB e.ver.data.toList a.ver.data.toList < 0
    · exact .inl hlt
    · right
      have hz : cmpB e.ver.data.toList a.ver.data.toList = 0 := by omega
      have e1 := t2 (by omega) (by omega)
      refine ⟨hz, ?_⟩
      cases hac : a.cl
      · rw [Bool.and_false]
      · have hbc := c2 (by omega) hac
        rcases a3 with a3 | a3
        · omega
        · have := a3.2
          cases hbb : b.cl
          · rw [hbb] at hbc; simp at hbc
          · rw [hbb, Bool.and_true] at this
            rw [this, Bool.false_and]
theorem okI_meet {p q : Iv} (hp : okI p = true) (hq : okI q = true) (hk : keepI (meetI p q) = true) : okI (meetI p q) = true := by
  unfold okI at *
  simp only [Bool.and_eq_true] at *
  refine ⟨⟨?_, ?_⟩, ?_⟩
  · unfold meetI
    simp only
    rcases tight_or p.lo q.lo 1 with h | h <;> rw [h]
    · exact hp.1.1
    · exact hq.1.1
  · unfold meetI
    simp only
    rcases tight_or p.hi q.hi (-1) with h | h <;> rw [h]
    · exact hp.1.2
    · exact hq.1.2
  · unfold keepI at hk
    cases h1 : (meetI p q).lo.has <;> cases h2 : (meetI p q).hi.has <;> simp_all
theorem mem_row {p m : Iv} {l : List Iv} (h : m ∈ meetRow p l) : ∃ q ∈ l, m = meetI p q ∧ keepI m = true := by
  unfold meetRow at h
  obtain ⟨h1, h2⟩ := List.mem_filter.1 h
  obtain ⟨q, hq, rfl⟩ := List.mem_map.1 h1
  exact ⟨q, hq, rfl, h2⟩
theorem mem_meet {x : Iv} {l m : List Iv} (h : x ∈ meetL l m) : ∃ p ∈ l, ∃ q ∈ m, x = meetI p q ∧ keepI x = true := by
  unfold meetL at h
  obtain ⟨p, hp, hx⟩ := List.mem_flatMap.1 h
  obtain ⟨q, hq, h1, h2⟩ := mem_row hx
  exact ⟨p, hp, q, hq, h1, h2⟩
theorem apart_row (p : Iv) : ∀ {m : List Iv}, Apart m → Apart (meetRow p m)
  | [], _ => by unfold meetRow; exact .nil
  | q :: r, h => by
    obtain ⟨h1, h2⟩ := List.pairwise_cons.1 h
    have ih := apart_row p h2
    unfold meetRow at ih ⊢
    rw [List.map_cons, List.filter_cons]
    split
    · refine List.pairwise_cons.2 ⟨fun x hx => ?_, ih⟩
      obtain ⟨q', hq', rfl, _⟩ := mem_row (l := r) (p := p) hx
      exact apart_hi_right (apart_lo_right (h1 q' hq'))
    · exact ih
theorem apart_meet {m : List Iv} (hm : Apart m) : ∀ {l : List Iv}, Apart l → Apart (meetL l m)
  | [], _ => by unfold meetL; exact .nil
  | p :: r, h => by
    obtain ⟨h1, h2⟩ := List.pairwise_cons.1 h
    have ih := apart_meet hm h2
    unfold meetL at ih ⊢
    rw [List.flatMap_cons]
    refine List.pairwise_append.2 ⟨apart_row p hm, ih, fun x hx y hy => ?_⟩
    obtain ⟨q, hq, rfl, _⟩ := mem_row hx
    obtain ⟨p', hp', q', hq', rfl, _⟩ := mem_meet (l := r) (m := m) hy
    exact apart_hi_left (apart_lo_left (h1 p' hp'))
theorem okRow_meet {l m : List Iv} (hl : okRow l = true) (hm : okRow m = true) : okRow (meetL l m) = true := by
  obtain ⟨l1, l2⟩ := okRow_apart hl
  obtain ⟨m1, m2⟩ := okRow_apart hm
  refine apart_okRow (fun x hx => ?_) (apart_meet m2 l2)
  obtain ⟨p, hp, q, hq, rfl, hk⟩ := mem_meet hx
  exact okI_meet (l1 p hp) (m1 q hq) hk
theorem meetRow_len (p : Iv) (m : List Iv) : (meetRow p m).length ≤ m.length := by
  unfold meetRow
  have := List.length_filter_le keepI (m.map (meetI p))
  rw [List.length_map] at this
  exact this
theorem meetL_len (l m : List Iv) : (meetL l m).length ≤ l.length * m.length := by
  unfold meetL
  induction l with
  | nil => simp
  | cons p r ih =>
    rw [List.flatMap_cons, List.length_append, List.length_cons, Nat.succ_mul]
    have := meetRow_len p m
    omega
theorem may_meet {v1 v2 : ByteArray} {l m : List Iv} (hl : mayB true v1 l = true) (hm : mayB true v2 m = true) (h20 : l.length ≤ 20) (k20 : m.length ≤ 20) : (mayB true .empty (meetL l m) || decide ((meetL l m).length = 0)) = true := by
  unfold mayB at *
  simp only [if_true, Bool.and_eq_true, decide_eq_true_eq] at hl hm ⊢
  rw [okRow_meet hl.2 hm.2]
  have h1 := meetL_len l m
  have h2 : l.length * m.length ≤ 20 * 20 := Nat.mul_le_mul h20 k20
  by_cases h0 : (meetL l m).length = 0
  · simp [h0]
  · have e1 : decide (1 ≤ (meetL l m).length) = true := decide_eq_true (by omega)
    have e2 : decide ((meetL l m).length ≤ 1024) = true := decide_eq_true (by omega)
    rw [e1, e2]
    rfl
theorem meetRow_snoc (p : Iv) (m : List Iv) (q : Iv) : meetRow p (m ++ [q]) = meetRow p m ++ (if keepI (meetI p q) then [meetI p q] else []) := by
  unfold meetRow
  rw [List.map_append, List.filter_append]
  congr 1
  simp only [List.map_cons, List.map_nil, List.filter_cons, List.filter_nil]
theorem meetL_snoc (l m : List Iv) (p : Iv) : meetL (l ++ [p]) m = meetL l m ++ meetRow p m := by
  unfold meetL
  simp
/-- the meeting of two ranges -/
def meetR (h1 : Bool) (v1 : ByteArray) (l1 : List Iv) (h2 : Bool) (v2 : ByteArray) (l2 : List Iv) : Bool × ByteArray × List Iv :=
  if !h1 && h2 then (h2, v2, l2) else if !h2 then (h1, v1, l1) else (true, .empty, meetL l1 l2)
end Go.Proofs.YtnghagikchffiaaDoor
