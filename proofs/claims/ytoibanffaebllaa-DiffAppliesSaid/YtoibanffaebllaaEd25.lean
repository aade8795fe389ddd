/-
  Layer 25, plain: edits as lists: what is another one in two rows of pins, edits applied, turned, joined; what these do by keys. Own work.
-/
import Derived.Test.YtoibanffaebllaaMrg25
import Derived.Test.YtoibanffaebllaaSame24
namespace Go.Proofs.Ytoibanffaebllaa
set_option linter.unusedVariables false
set_option linter.unusedSimpArgs false
open Go.RowKit

/-- an edit -/
structure Ed where
  key : K4
  had : Bool
  has : Bool
  old : Pn
  new : Pn
def zP : Pn := ⟨⟨#[]⟩, ⟨#[]⟩, ⟨#[]⟩, ⟨#[]⟩, ⟨#[]⟩, 0⟩
theorem tl_inj {a b : ByteArray} (h : a.toList = b.toList) : a = b := by
  rw [ByteArray.toList_eq, ByteArray.toList_eq] at h
  exact ByteArray.ext (Array.toList_inj.1 h)
theorem sameP_eq {p q : Pn} (h : sameP p q = true) : p = q := by
  obtain ⟨p0, p1, p2, p3, p4, p5⟩ := p
  obtain ⟨q0, q1, q2, q3, q4, q5⟩ := q
  unfold sameP at h
  simp only [Bool.and_eq_true, beq_iff_eq] at h
  obtain ⟨h0, h1, h2, h3, h4, h5⟩ := h
  rw [tl_inj h0, tl_inj h1, tl_inj h2, tl_inj h3, tl_inj h4, h5]
theorem sameP_self (p : Pn) : sameP p p = true := by unfold sameP; simp
theorem sameP_iff {p q : Pn} : sameP p q = true ↔ p = q := ⟨sameP_eq, fun h => h ▸ sameP_self p⟩
theorem sameP_ne {p q : Pn} (h : p ≠ q) : sameP p q = false := by
  rw [Bool.eq_false_iff]; exact fun e => h (sameP_eq e)
theorem sameP_comm (p q : Pn) : sameP p q = sameP q p := by
  rw [Bool.eq_iff_iff, sameP_iff, sameP_iff]; exact eq_comm
/-- what is another one of a key -/
def edF : Option Pn → Option Pn → Option Ed
  | none, none => none
  | some p, none => if sameP p zP = true then none else some ⟨p.key, true, false, p, zP⟩
  | none, some q => if sameP zP q = true then none else some ⟨q.key, false, true, zP, q⟩
  | some p, some q => if sameP p q = true then none else some ⟨q.key, true, true, p, q⟩
def apF : Option Pn → Option Ed → Option Pn
  | x, none => x
  | _, some e => if e.has = true then some e.new else none
def fitB : Option Pn → Option Ed → Bool
  | _, none => true
  | none, some e => !e.had
  | some p, some e => e.had && sameP e.old p
def joF : Option Ed → Option Ed → Option Ed
  | x, none => x
  | none, some f => some f
  | some e, some f => if (e.had != f.has) = true ∨ sameP e.old f.new = false then some ⟨e.key, e.had, f.has, e.old, f.new⟩ else none
def togB : Option Ed → Option Ed → Bool
  | some e, some f => (e.has == f.had) && sameP e.new f.old
  | _, _ => true
def turnE (e : Ed) : Ed := ⟨e.key, e.has, e.had, e.new, e.old⟩
def edits (a b : List Pn) : List Ed := mrg Pn.key Pn.key edF a b
def apply (a : List Pn) (l : List Ed) : List Pn := mrg Pn.key Ed.key apF a l
def join (l m : List Ed) : List Ed := mrg Ed.key Ed.key joF l m
/-- does a test hold of all that stands side by side? -/
def allB {α β : Type} (ka : α → K4) (kb : β → K4) (t : Option α → Option β → Bool) : List α → List β → Bool
  | [], [] => true
  | x :: l, [] => t (some x) none && allB ka kb t l []
  | [], y :: m => t none (some y) && allB ka kb t [] m
  | x :: l, y :: m =>
    if kcmp (ka x) (kb y) < 0 then t (some x) none && allB ka kb t l (y :: m)
    else if 0 < kcmp (ka x) (kb y) then t none (some y) && allB ka kb t (x :: l) m
    else t (some x) (some y) && allB ka kb t l m
termination_by l m => l.length + m.length
/-- asked by keys -/
theorem allB_of {α β : Type} {ka : α → K4} {kb : β → K4} {t : Option α → Option β → Bool} : ∀ (l : List α) (m : List β), Ris ka l → Ris kb m → (∀ q, t (lk ka q l) (lk kb q m) = true) → t none none = true → allB ka kb t l m = true
  | [], [], _, _, _, _ => by rw [allB]
  | x :: l, [], hl, hm, h, h0 => by
    have hl' := List.pairwise_cons.1 hl
    rw [allB, Bool.and_eq_true]
    refine ⟨?_, allB_of l [] hl'.2 hm (fun q => ?_) h0⟩
    · have := h (ka x)
      rw [lk_mem hl (by simp)] at this
      exact this
    · by_cases hq : kcmp (ka x) q = 0
      · rw [ris_lt_none (l := l)]
        · exact h0
        · rw [← kcmp_zero hq]; exact hl'.1
      · have := h q
        rw [lk_cons, if_neg hq] at this
        exact this
  | [], y :: m, hl, hm, h, h0 => by
    have hm' := List.pairwise_cons.1 hm
    rw [allB, Bool.and_eq_true]
    refine ⟨?_, allB_of [] m hl hm'.2 (fun q => ?_) h0⟩
    · have := h (kb y)
      rw [lk_mem hm (by simp)] at this
      exact this
    · by_cases hq : kcmp (kb y) q = 0
      · rw [ris_lt_none (l := m)]
        · exact h0
        · rw [← kcmp_zero hq]; exact hm'.1
      · have := h q
        rw [lk_cons, if_neg hq] at this
        exact this
  | x :: l, y :: m, hl, hm, h, h0 => by
    have hl' := List.pairwise_cons.1 hl
    have hm' := List.pairwise_cons.1 hm
    rw [allB]
    split
    · rename_i h1
      have hx : lk kb (ka x) (y :: m) = none := ris_lt_none fun z hz => by
        rcases List.mem_cons.1 hz with rfl | hz
        · exact h1
        · exact kcmp_lt_trans h1 (hm'.1 z hz)
      rw [Bool.and_eq_true]
      refine ⟨?_, allB_of l (y :: m) hl'.2 hm (fun q => ?_) h0⟩
      · have := h (ka x)
        rw [lk_mem hl (by simp), hx] at this
        exact this
      · by_cases hq : kcmp (ka x) q = 0
        · rw [ris_lt_none (l := l), ← kcmp_zero hq, hx]
          · exact h0
          · rw [← kcmp_zero hq]; exact hl'.1
        · have := h q
          rw [lk_cons (l := l), if_neg hq] at this
          exact this
    · rename_i h1
      split
      · rename_i h2
        have hx : lk ka (kb y) (x :: l) = none := ris_lt_none fun z hz => by
          rcases List.mem_cons.1 hz with rfl | hz
          · exact kcmp_gt h2
          · exact kcmp_lt_trans (kcmp_gt h2) (hl'.1 z hz)
        rw [Bool.and_eq_true]
        refine ⟨?_, allB_of (x :: l) m hl hm'.2 (fun q => ?_) h0⟩
        · have := h (kb y)
          rw [lk_mem hm (by simp), hx] at this
          exact this
        · by_cases hq : kcmp (kb y) q = 0
          · rw [ris_lt_none (l := m), ← kcmp_zero hq, hx]
            · exact h0
            · rw [← kcmp_zero hq]; exact hm'.1
          · have := h q
            rw [lk_cons (l := m), if_neg hq] at this
            exact this
      · rename_i h2
        have hk : ka x = kb y := kcmp_zero (by omega)
        rw [Bool.and_eq_true]
        refine ⟨?_, allB_of l m hl'.2 hm'.2 (fun q => ?_) h0⟩
        · have := h (ka x)
          rw [lk_mem hl (by simp), hk, lk_mem hm (by simp)] at this
          exact this
        · by_cases hq : kcmp (ka x) q = 0
          · rw [ris_lt_none (l := l), ris_lt_none (l := m)]
            · exact h0
            · rw [← kcmp_zero hq, hk]; exact hm'.1
            · rw [← kcmp_zero hq]; exact hl'.1
          · have := h q
            rw [lk_cons (l := l), if_neg hq, lk_cons (l := m), ← hk, if_neg hq] at this
            exact this
termination_by l m => l.length + m.length
def fits (a : List Pn) (l : List Ed) : Bool := allB Pn.key Ed.key fitB a l
def togs (l m : List Ed) : Bool := allB Ed.key Ed.key togB l m
theorem edF_keyed : Keyed Pn.key Pn.key Ed.key edF := by
  refine ⟨fun x y g h hk => ?_, fun x y g h hk => ?_⟩
  · cases y with
    | none =>
      simp only [edF] at h
      split at h <;> cases h
      rfl
    | some q =>
      simp only [edF] at h
      split at h <;> cases h
      exact (hk q rfl).symm
  · cases x with
    | none =>
      simp only [edF] at h
      split at h <;> cases h
      rfl
    | some q =>
      simp only [edF] at h
      split at h <;> cases h
      rfl
theorem joF_keyed : Keyed Ed.key Ed.key Ed.key joF := by
  refine ⟨fun x y g h hk => ?_, fun x y g h hk => ?_⟩
  · cases y with
    | none => simp only [joF] at h; cases h; rfl
    | some q =>
      simp only [joF] at h
      split at h <;> cases h
      rfl
  · cases x with
    | none => simp only [joF] at h; cases h; rfl
    | some q =>
      simp only [joF] at h
      split at h <;> cases h
      exact hk q rfl
/-- an edit's new pin under the edit's key -/
def rekey (e : Ed) : Pn := ⟨e.key.g, e.key.a, e.key.t, e.key.c, e.new.v, e.new.sc⟩
theorem rekey_eq {e : Ed} (h : e.new.key = e.key) : rekey e = e.new := by
  obtain ⟨k, b1, b2, o, n⟩ := e
  simp only at h
  subst h
  rfl
def apG : Option Pn → Option Ed → Option Pn
  | x, none => x
  | _, some e => if e.has = true then some (rekey e) else none
theorem apG_keyed : Keyed Pn.key Ed.key Pn.key apG := by
  refine ⟨fun x y g h hk => ?_, fun x y g h hk => ?_⟩
  · cases y with
    | none => simp only [apG] at h; cases h; rfl
    | some q =>
      simp only [apG] at h
      split at h <;> cases h
      exact (hk q rfl).symm
  · cases x with
    | none =>
      simp only [apG] at h
      split at h <;> cases h
      rfl
    | some q =>
      simp only [apG] at h
      split at h <;> cases h
      rfl
theorem mrg_congr {α β γ : Type} {ka : α → K4} {kb : β → K4} {f g : Option α → Option β → Option γ} : ∀ (l : List α) (m : List β), (∀ x y, (∀ a, x = some a → a ∈ l) → (∀ b, y = some b → b ∈ m) → f x y = g x y) → mrg ka kb f l m = mrg ka kb g l m
  | [], [], h => by rw [mrg, mrg]
  | x :: l, [], h => by
    rw [mrg, mrg, h (some x) none (by simp) (by simp), mrg_congr l [] fun a b ha hb => h a b (fun z hz => List.mem_cons_of_mem _ (ha z hz)) hb]
  | [], y :: m, h => by
    rw [mrg, mrg, h none (some y) (by simp) (by simp), mrg_congr [] m fun a b ha hb => h a b ha (fun z hz => List.mem_cons_of_mem _ (hb z hz))]
  | x :: l, y :: m, h => by
    rw [mrg, mrg, h (some x) none (by simp) (by simp), h none (some y) (by simp) (by simp), h (some x) (some y) (by simp) (by simp),
      mrg_congr l (y :: m) fun a b ha hb => h a b (fun z hz => List.mem_cons_of_mem _ (ha z hz)) hb, mrg_congr (x :: l) m fun a b ha hb => h a b ha (fun z hz => List.mem_cons_of_mem _ (hb z hz)),
      mrg_congr l m fun a b ha hb => h a b (fun z hz => List.mem_cons_of_mem _ (ha z hz)) (fun z hz => List.mem_cons_of_mem _ (hb z hz))]
termination_by l m => l.length + m.length
def Newk (l : List Ed) : Prop := ∀ e ∈ l, e.has = true → e.new.key = e.key
theorem apply_eq {a : List Pn} {l : List Ed} (h : Newk l) : apply a l = mrg Pn.key Ed.key apG a l := by
  refine mrg_congr a l fun x y _ hy => ?_
  cases y with
  | none => rfl
  | some e =>
    simp only [apF, apG]
    by_cases hh : e.has = true
    · rw [if_pos hh, if_pos hh, rekey_eq (h e (hy e rfl) hh)]
    · rw [if_neg hh, if_neg hh]
/-! the rows of locks that may be -/
def PinsOk (l : List Pn) : Prop := Ris Pn.key l ∧ ∀ p ∈ l, p ≠ zP
theorem ris_of_adj {α : Type} {k : α → K4} : ∀ (l : List α), (∀ (i : Nat) x y, l[i]? = some x → l[i + 1]? = some y → kcmp (k x) (k y) < 0) → Ris k l
  | [], _ => List.Pairwise.nil
  | [x], _ => List.pairwise_cons.2 ⟨by simp, List.Pairwise.nil⟩
  | x :: y :: l, h => by
    have ih := ris_of_adj (y :: l) fun i a b ha hb => h (i + 1) a b (by simpa using ha) (by simpa using hb)
    have hxy := h 0 x y rfl rfl
    refine List.pairwise_cons.2 ⟨fun z hz => ?_, ih⟩
    rcases List.mem_cons.1 hz with rfl | hz
    · exact hxy
    · exact kcmp_lt_trans hxy ((List.pairwise_cons.1 ih).1 z hz)
theorem allMay_ok {l : List Pn} (h : allMay l = true) : PinsOk l := by
  have h := allMay_iff.1 h
  refine ⟨ris_of_adj l fun i x y hx hy => ?_, fun p hp e => ?_⟩
  · have hi := (List.getElem?_eq_some_iff.1 hy).1
    have := h (i + 1) hi
    unfold mayAt at this
    rw [hy] at this
    simp [hx, prevB] at this
    exact this.1
  · obtain ⟨i, hi, hpi⟩ := List.getElem_of_mem hp
    have hq : l[i]? = some p := by rw [List.getElem?_eq_getElem hi, hpi]
    have := h i hi
    unfold mayAt at this
    rw [hq] at this
    simp only [Bool.and_eq_true] at this
    have := this.2
    unfold mayP at this
    rw [e] at this
    simp [zP] at this
theorem mayLock_ok {g a v : ByteArray} {l : List Pn} (h : mayLock g a v l = true) : PinsOk l := by
  unfold mayLock at h
  simp only [Bool.and_eq_true] at h
  exact allMay_ok h.2
section
variable {A B C : List Pn}
theorem lk_ne {l : List Pn} (h : PinsOk l) {q : K4} {p : Pn} (hp : lk Pn.key q l = some p) : p ≠ zP := h.2 p (lk_some hp).2
theorem edits_ris (hA : PinsOk A) (hB : PinsOk B) : Ris Ed.key (edits A B) := mrg_ris edF_keyed A B hA.1 hB.1
theorem lk_edits (hA : PinsOk A) (hB : PinsOk B) (q : K4) :
    (lk Pn.key q A = lk Pn.key q B ∧ lk Ed.key q (edits A B) = none) ∨
    (lk Pn.key q A ≠ lk Pn.key q B ∧ lk Ed.key q (edits A B) = some ⟨q, (lk Pn.key q A).isSome, (lk Pn.key q B).isSome, (lk Pn.key q A).getD zP, (lk Pn.key q B).getD zP⟩) := by
  have h : lk Ed.key q (edits A B) = two edF (lk Pn.key q A) (lk Pn.key q B) := mrg_lk edF_keyed A B q hA.1 hB.1
  rw [h]
  have nA := fun p => lk_ne hA (q := q) (p := p)
  have nB := fun p => lk_ne hB (q := q) (p := p)
  have kA := fun p (h : lk Pn.key q A = some p) => (lk_some h).1
  have kB := fun p (h : lk Pn.key q B = some p) => (lk_some h).1
  generalize lk Pn.key q A = x at nA kA
  generalize lk Pn.key q B = y at nB kB
  cases x with
  | none =>
    cases y with
    | none => exact .inl ⟨rfl, rfl⟩
    | some q' =>
      refine .inr ⟨by simp, ?_⟩
      simp only [two, edF]
      rw [if_neg (by rw [sameP_iff]; exact fun e => nB q' rfl e.symm), kB q' rfl]
      rfl
  | some p =>
    cases y with
    | none =>
      refine .inr ⟨by simp, ?_⟩
      simp only [two, edF]
      rw [if_neg (by rw [sameP_iff]; exact nA p rfl), kA p rfl]
      rfl
    | some q' =>
      simp only [two, edF]
      by_cases e : p = q'
      · subst e
        exact .inl ⟨rfl, by rw [if_pos (sameP_self p)]⟩
      · refine .inr ⟨fun h => e (Option.some.inj h), ?_⟩
        rw [if_neg (by rw [sameP_iff]; exact e), kB q' rfl]
        rfl
theorem of_edits (hA : PinsOk A) (hB : PinsOk B) {e : Ed} (he : e ∈ edits A B) :
    lk Pn.key e.key A ≠ lk Pn.key e.key B ∧ e.had = (lk Pn.key e.key A).isSome ∧ e.has = (lk Pn.key e.key B).isSome ∧ e.old = (lk Pn.key e.key A).getD zP ∧ e.new = (lk Pn.key e.key B).getD zP := by
  have h := lk_mem (edits_ris hA hB) he
  rcases lk_edits hA hB e.key with ⟨_, h2⟩ | ⟨h1, h2⟩
  · rw [h2] at h; cases h
  · rw [h2] at h
    have h := Option.some.inj h
    exact ⟨h1, congrArg Ed.had h.symm, congrArg Ed.has h.symm, congrArg Ed.old h.symm, congrArg Ed.new h.symm⟩
theorem edits_newk (hA : PinsOk A) (hB : PinsOk B) : Newk (edits A B) := fun e he hh => by
  obtain ⟨_, _, h3, _, h5⟩ := of_edits hA hB he
  rw [h3] at hh
  rw [h5]
  cases hy : lk Pn.key e.key B with
  | none => rw [hy] at hh; cases hh
  | some p => exact (lk_some hy).1
theorem apply_lk (hA : PinsOk A) {l : List Ed} (hl : Ris Ed.key l) (hn : Newk l) (q : K4) : lk Pn.key q (apply A l) = two apG (lk Pn.key q A) (lk Ed.key q l) := by
  rw [apply_eq hn]
  exact mrg_lk apG_keyed A l q hA.1 hl
theorem apply_ris (hA : PinsOk A) {l : List Ed} (hl : Ris Ed.key l) (hn : Newk l) : Ris Pn.key (apply A l) := by
  rw [apply_eq hn]
  exact mrg_ris apG_keyed A l hA.1 hl
/-- what is another one, applied to the first, makes the second -/
theorem apply_edits (hA : PinsOk A) (hB : PinsOk B) : apply A (edits A B) = B := by
  have hl := edits_ris hA hB
  have hn := edits_newk hA hB
  refine ris_ext (apply_ris hA hl hn) hB.1 fun q => ?_
  rw [apply_lk hA hl hn]
  have kB := fun p (h : lk Pn.key q B = some p) => (lk_some h).1
  rcases lk_edits hA hB q with ⟨h1, h2⟩ | ⟨h1, h2⟩
  · rw [h2, h1]
    cases lk Pn.key q B <;> rfl
  · rw [h2]
    have : ∀ x, two apG x (some ⟨q, (lk Pn.key q A).isSome, (lk Pn.key q B).isSome, (lk Pn.key q A).getD zP, (lk Pn.key q B).getD zP⟩) = apG x (some ⟨q, (lk Pn.key q A).isSome, (lk Pn.key q B).isSome, (lk Pn.key q A).getD zP, (lk Pn.key q B).getD zP⟩) := fun x => by cases x <;> rfl
    rw [this]
    simp only [apG]
    cases hy : lk Pn.key q B with
    | none => rfl
    | some p =>
      simp only [Option.isSome_some, if_true]
      rw [rekey_eq]
      · rfl
      · exact kB p hy
theorem fits_edits (hA : PinsOk A) (hB : PinsOk B) : fits A (edits A B) = true := by
  refine allB_of A _ hA.1 (edits_ris hA hB) (fun q => ?_) rfl
  rcases lk_edits hA hB q with ⟨h1, h2⟩ | ⟨h1, h2⟩
  · rw [h2]; cases lk Pn.key q A <;> rfl
  · rw [h2]
    cases lk Pn.key q A with
    | none => rfl
    | some p => simp only [fitB]; rw [show ((some p).getD zP) = p from rfl, sameP_self]; rfl
theorem lk_turn (q : K4) : ∀ (l : List Ed), lk Ed.key q (l.map turnE) = (lk Ed.key q l).map turnE
  | [] => rfl
  | e :: l => by
    rw [List.map_cons, lk_cons, lk_cons, lk_turn q l]
    have : (turnE e).key = e.key := rfl
    rw [this]
    split <;> rfl
theorem turn_ris {l : List Ed} (h : Ris Ed.key l) : Ris Ed.key (l.map turnE) := by
  unfold Ris
  rw [List.pairwise_map]
  exact h
theorem turn_edits (hA : PinsOk A) (hB : PinsOk B) : (edits A B).map turnE = edits B A := by
  refine ris_ext (turn_ris (edits_ris hA hB)) (edits_ris hB hA) fun q => ?_
  rw [lk_turn]
  rcases lk_edits hA hB q with ⟨h1, h2⟩ | ⟨h1, h2⟩
  · rcases lk_edits hB hA q with ⟨g1, g2⟩ | ⟨g1, g2⟩
    · rw [h2, g2]; rfl
    · exact absurd h1.symm g1
  · rcases lk_edits hB hA q with ⟨g1, g2⟩ | ⟨g1, g2⟩
    · exact absurd g1.symm h1
    · rw [h2, g2]; rfl
theorem edits_self (hA : PinsOk A) : edits A A = [] := by
  refine ris_ext (edits_ris hA hA) List.Pairwise.nil fun q => ?_
  rcases lk_edits hA hA q with ⟨h1, h2⟩ | ⟨h1, h2⟩
  · rw [h2]; rfl
  · exact absurd rfl h1
theorem apply_nil (hA : PinsOk A) : apply A [] = A := by
  refine ris_ext (apply_ris hA List.Pairwise.nil (fun e h => by simp at h)) hA.1 fun q => ?_
  rw [apply_lk hA List.Pairwise.nil (fun e h => by simp at h)]
  cases h : lk Pn.key q A <;> rfl
theorem fits_nil (hA : PinsOk A) : fits A [] = true := by
  refine allB_of A _ hA.1 List.Pairwise.nil (fun q => ?_) rfl
  cases lk Pn.key q A <;> rfl
theorem isSome_getD_ne {x y : Option Pn} (hx : ∀ p, x = some p → p ≠ zP) (hy : ∀ p, y = some p → p ≠ zP) (h : x ≠ y) : sameP (x.getD zP) (y.getD zP) = false := by
  cases x with
  | none =>
    cases y with
    | none => exact absurd rfl h
    | some q => exact sameP_ne fun e => hy q rfl e.symm
  | some p =>
    cases y with
    | none => exact sameP_ne (hx p rfl)
    | some q => exact sameP_ne fun e => h (by simp at e; rw [e])
theorem join_edits (hA : PinsOk A) (hB : PinsOk B) (hC : PinsOk C) : join (edits A B) (edits B C) = edits A C := by
  refine ris_ext (mrg_ris joF_keyed _ _ (edits_ris hA hB) (edits_ris hB hC)) (edits_ris hA hC) fun q => ?_
  have h : lk Ed.key q (join (edits A B) (edits B C)) = two joF (lk Ed.key q (edits A B)) (lk Ed.key q (edits B C)) := mrg_lk joF_keyed _ _ q (edits_ris hA hB) (edits_ris hB hC)
  rw [h]
  have nA := fun p => lk_ne hA (q := q) (p := p)
  have nC := fun p => lk_ne hC (q := q) (p := p)
  rcases lk_edits hA hB q with ⟨h1, h2⟩ | ⟨h1, h2⟩ <;> rcases lk_edits hB hC q with ⟨g1, g2⟩ | ⟨g1, g2⟩ <;> rcases lk_edits hA hC q with ⟨k1, k2⟩ | ⟨k1, k2⟩
  · rw [h2, g2, k2]; rfl
  · exact absurd (h1.trans g1) k1
  · exact absurd (h1.symm.trans k1) g1
  · rw [h2, g2, k2, h1]; rfl
  · exact absurd (k1.trans g1.symm) h1
  · rw [h2, g2, k2, g1]; rfl
  · rw [h2, g2, k2]
    simp only [two, joF]
    rw [if_neg]
    rw [k1, sameP_self]
    simp
  · rw [h2, g2, k2]
    simp only [two, joF]
    rw [if_pos (.inr (isSome_getD_ne nA nC k1))]
theorem togs_edits (hA : PinsOk A) (hB : PinsOk B) (hC : PinsOk C) : togs (edits A B) (edits B C) = true := by
  refine allB_of _ _ (edits_ris hA hB) (edits_ris hB hC) (fun q => ?_) rfl
  rcases lk_edits hA hB q with ⟨h1, h2⟩ | ⟨h1, h2⟩ <;> rcases lk_edits hB hC q with ⟨g1, g2⟩ | ⟨g1, g2⟩
  · rw [h2, g2]; rfl
  · rw [h2, g2]; rfl
  · rw [h2, g2]; rfl
  · rw [h2, g2]
    simp only [togB]
    rw [sameP_self]
    simp
end
/-! which may be edits -/
def sameK (x y : K4) : Bool := (x.g.toList == y.g.toList) && ((x.a.toList == y.a.toList) && ((x.t.toList == y.t.toList) && (x.c.toList == y.c.toList)))
theorem sameK_eq {x y : K4} : sameK x y = true ↔ x = y := by
  constructor
  · intro h
    obtain ⟨x0, x1, x2, x3⟩ := x
    obtain ⟨y0, y1, y2, y3⟩ := y
    unfold sameK at h
    simp only [Bool.and_eq_true, beq_iff_eq] at h
    obtain ⟨h0, h1, h2, h3⟩ := h
    rw [tl_inj h0, tl_inj h1, tl_inj h2, tl_inj h3]
  · rintro rfl
    unfold sameK; simp
def sideB (k : K4) (is : Bool) (p : Pn) : Bool := if is = true then sameK p.key k else sameP p zP
theorem side_t (k : K4) (p : Pn) : sideB k true p = sameK p.key k := rfl
theorem side_f (k : K4) (p : Pn) : sideB k false p = sameP p zP := rfl
def mayE (e : Ed) : Bool := !((!e.had && !e.has) || (e.had && e.has && sameP e.old e.new)) && (sideB e.key e.had e.old && sideB e.key e.has e.new)
def mayEdAt (l : List Ed) (i : Nat) : Bool :=
  match l[i]? with
  | none => true
  | some e => (match (if i = 0 then none else l[i - 1]?) with | none => true | some d => decide (kcmp d.key e.key < 0)) && mayE e
def mayEds (l : List Ed) : Bool := (List.range l.length).all (mayEdAt l)
theorem mayEds_iff {l : List Ed} : mayEds l = true ↔ ∀ i, i < l.length → mayEdAt l i = true := by
  unfold mayEds
  rw [List.all_eq_true]
  simp only [List.mem_range]
theorem mayEds_no {l : List Ed} {i : Nat} (hi : i < l.length) (h : mayEdAt l i = false) : mayEds l = false := by
  rw [Bool.eq_false_iff]
  intro ha
  rw [mayEds_iff.1 ha i hi] at h; cases h
theorem mayEds_of {l : List Ed} (hr : Ris Ed.key l) (h : ∀ e ∈ l, mayE e = true) : mayEds l = true := by
  rw [mayEds_iff]
  intro i hi
  unfold mayEdAt
  rw [List.getElem?_eq_getElem hi]
  simp only [Bool.and_eq_true]
  refine ⟨?_, h _ (List.getElem_mem hi)⟩
  by_cases h0 : i = 0
  · rw [if_pos h0]
  · rw [if_neg h0, List.getElem?_eq_getElem (by omega)]
    simp only [decide_eq_true_eq]
    exact List.pairwise_iff_getElem.1 hr (i - 1) i (by omega) hi (by omega)
theorem edits_may {A B : List Pn} (hA : PinsOk A) (hB : PinsOk B) : mayEds (edits A B) = true := by
  refine mayEds_of (edits_ris hA hB) fun e he => ?_
  obtain ⟨h1, h2, h3, h4, h5⟩ := of_edits hA hB he
  have kA := fun p (h : lk Pn.key e.key A = some p) => (lk_some h).1
  have kB := fun p (h : lk Pn.key e.key B = some p) => (lk_some h).1
  unfold mayE
  rw [h2, h3, h4, h5]
  generalize lk Pn.key e.key A = x at h1 kA
  generalize lk Pn.key e.key B = y at h1 kB
  cases x with
  | none =>
    cases y with
    | none => exact absurd rfl h1
    | some q =>
      simp only [Option.isSome_none, Option.isSome_some, Option.getD_none, Option.getD_some, side_t, side_f]
      rw [sameP_self, sameK_eq.2 (kB q rfl)]
      rfl
  | some p =>
    cases y with
    | none =>
      simp only [Option.isSome_none, Option.isSome_some, Option.getD_none, Option.getD_some, side_t, side_f]
      rw [sameP_self, sameK_eq.2 (kA p rfl)]
      rfl
    | some q =>
      simp only [Option.isSome_some, Option.getD_some, side_t, side_f]
      rw [sameK_eq.2 (kA p rfl), sameK_eq.2 (kB q rfl), sameP_ne fun e => h1 (by rw [e])]
      rfl
theorem edits_len (A B : List Pn) : (edits A B).length ≤ A.length + B.length := mrg_len A B
end Go.Proofs.Ytoibanffaebllaa
