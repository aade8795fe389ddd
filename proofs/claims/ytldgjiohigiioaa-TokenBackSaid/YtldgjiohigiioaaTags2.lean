/-
  Layer 2: a tag of any names and values, on lists. Own work.
-/
import Derived.Test.YtldgjiohigiioaaPlain2
import Derived.Test.YtldgjiohigiioaaOpen2
namespace Go.Proofs.Ytldgjiohigiioaa
set_option linter.unusedVariables false
set_option linter.unusedSimpArgs false
open Go.RowKit

/-- references for its ' -/
def apos1 (c : UInt8) : List UInt8 := if c = 39 then [38, 97, 112, 111, 115, 59] else [c]
def aposL (l : List UInt8) : List UInt8 := l.flatMap apos1
def eA (c : UInt8) : List UInt8 := aposL (esc1 true c)
theorem apos_esc (v : List UInt8) : aposL (escS true v) = v.flatMap eA := by
  unfold aposL escS eA aposL
  rw [List.flatMap_assoc]
theorem apos_no : ∀ {l : List UInt8}, (∀ c ∈ l, c ≠ 39) → aposL l = l
  | [], _ => rfl
  | c :: l, h => by
    have ih := apos_no (l := l) fun d hd => h d (List.mem_cons_of_mem _ hd)
    unfold aposL at ih ⊢
    rw [List.flatMap_cons, ih, apos1, if_neg (h c List.mem_cons_self)]
    rfl
theorem esc1_39 {c : UInt8} (hc : escOk true c = true) : ∀ d ∈ esc1 true c, d ≠ 39 := by
  simp [escOk] at hc
  rcases hc with (((h | h) | h) | h) | ((h | h) | h) <;> subst h <;> decide
theorem okE_34 {c : UInt8} (h : tx c = true) : OkE 34 (esc1 true) c := by
  cases hok : escOk true c with
  | true =>
    have h0 := esc1_head true c hok
    cases he : esc1 true c with
    | nil => rw [he] at h0; simp at h0
    | cons d x =>
      rw [he] at h0
      obtain rfl : d = 38 := by simpa using h0
      exact .inr ⟨x, he, fun r => refS_esc true c r hok⟩
  | false =>
    refine .inl ⟨esc1_no hok, ?_, ?_, ?_, h⟩ <;> (rintro rfl; simp [escOk] at hok)
theorem okE_39 {c : UInt8} (h : tx c = true) : OkE 39 eA c := by
  cases hok : escOk true c with
  | true =>
    have h0 := esc1_head true c hok
    have hn : eA c = esc1 true c := apos_no (esc1_39 hok)
    cases he : esc1 true c with
    | nil => rw [he] at h0; simp at h0
    | cons d x =>
      rw [he] at h0
      obtain rfl : d = 38 := by simpa using h0
      refine .inr ⟨x, by rw [hn, he], fun r => ?_⟩
      rw [hn]
      exact refS_esc true c r hok
  | false =>
    by_cases h39 : c = 39
    · subst h39
      refine .inr ⟨[97, 112, 111, 115, 59], by rw [eA, esc1_no hok]; rfl, fun r => ?_⟩
      rw [show eA 39 = [38, 97, 112, 111, 115, 59] by rw [eA, esc1_no hok]; rfl]
      exact refS_word4 (List.isPrefixOf_iff_prefix.2 (List.prefix_append _ _))
    · have hn : eA c = [c] := by rw [eA, esc1_no hok, aposL, List.flatMap_cons, apos1, if_neg h39]; rfl
      refine .inl ⟨hn, h39, ?_, ?_, h⟩ <;> (rintro rfl; simp [escOk] at hok)
/-- a name -/
def isN (n : List UInt8) : Prop := n ≠ [] ∧ nameL n = n.length
theorem isN_first {n : List UInt8} (h : isN n) : ∃ c r, n = c :: r ∧ isFirst (c.toNat : Int) = true ∧ ∀ d ∈ r, isName (d.toNat : Int) = true := by
  obtain ⟨h1, h2⟩ := h
  cases n with
  | nil => exact absurd rfl h1
  | cons c r =>
    rw [nameL] at h2
    by_cases hf : isFirst (c.toNat : Int) = true
    · rw [if_pos hf] at h2
      refine ⟨c, r, rfl, hf, fun d hd => ?_⟩
      have hl : (r.takeWhile fun d => isName (d.toNat : Int)).length = r.length := by simp only [List.length_cons] at h2; omega
      obtain ⟨i, hi⟩ := List.getElem?_of_mem hd
      exact tw_all (fun d : UInt8 => isName (d.toNat : Int)) r i d (by rw [hl]; exact (List.getElem?_eq_some_iff.1 hi).1) hi
    · rw [if_neg hf] at h2
      simp at h2
theorem tw_app {p : UInt8 → Bool} : ∀ {r R : List UInt8}, (∀ d ∈ r, p d = true) → (∀ c, R.head? = some c → p c = false) → (r ++ R).takeWhile p = r
  | [], [], _, _ => rfl
  | [], c :: R, _, h => by rw [List.nil_append, List.takeWhile_cons, h c rfl]; rfl
  | d :: r, R, hr, h => by
    rw [List.cons_append, List.takeWhile_cons, hr d List.mem_cons_self, tw_app (fun e he => hr e (List.mem_cons_of_mem _ he)) h]
    rfl
theorem nameM_app {e : Int} {n R : List UInt8} (h : isN n) (hR : ∀ c, R.head? = some c → isName (c.toNat : Int) = false) : nameM e (n ++ R) = .ok n R := by
  obtain ⟨c, r, rfl, hf, hr⟩ := isN_first h
  have hl : nameL ((c :: r) ++ R) = (c :: r).length := by
    rw [List.cons_append, nameL, if_pos hf, tw_app hr hR]
    simp; omega
  rw [nameM, if_neg (by simp), hl, if_neg (by simp), List.take_left, List.drop_left]
theorem first_not {c : UInt8} (h : isFirst (c.toNat : Int) = true) : bl c = false ∧ c ≠ 47 ∧ c ≠ 62 := by
  refine ⟨?_, ?_, ?_⟩
  · unfold bl isBlank
    simp [isFirst] at h
    simp only [Bool.or_eq_false_iff, beq_eq_false_iff_ne]
    omega
  · rintro rfl; simp [isFirst] at h
  · rintro rfl; simp [isFirst] at h
/-- what an attribute is written as -/
def pcA : Bool × At2 → List UInt8
  | (true, n, v) => 10 :: (n ++ [32, 61, 9, 39] ++ v.flatMap eA ++ [39])
  | (false, n, v) => 32 :: (n ++ [61, 34] ++ escS true v ++ [34])
theorem blanks_no {c : UInt8} {r : List UInt8} (h : bl c = false) : blanksM (c :: r) = c :: r := by unfold blanksM; rw [List.dropWhile_cons, if_neg (by rw [h]; simp)]
theorem blanks_yes {c : UInt8} {r : List UInt8} (h : bl c = true) : blanksM (c :: r) = blanksM r := by unfold blanksM; rw [List.dropWhile_cons, if_pos h]
theorem any_none {ats : List At2} {n : List UInt8} (h : ∀ a ∈ ats, a.1 ≠ n) : ats.any (fun a => a.1 == n) = false := by
  rw [List.any_eq_false]
  intro a ha
  simpa using h a ha
theorem let_done {stop : UInt8} {f : Nat} {acc r : List UInt8} (hf : 0 < f) : letM stop false f acc (stop :: r) = .ok acc (stop :: r) := by
  obtain ⟨g, rfl⟩ : ∃ g, f = g + 1 := ⟨f - 1, by omega⟩
  exact let_stop
theorem flat_ge {e : UInt8 → List UInt8} : ∀ {v : List UInt8}, (∀ c ∈ v, 1 ≤ (e c).length) → v.length ≤ (v.flatMap e).length
  | [], _ => by simp
  | c :: v, h => by
    have := flat_ge (v := v) fun d hd => h d (List.mem_cons_of_mem _ hd)
    have h1 := h c List.mem_cons_self
    simp only [List.flatMap_cons, List.length_append, List.length_cons]
    omega
theorem okE_pos {stop : UInt8} {e : UInt8 → List UInt8} {c : UInt8} (h : OkE stop e c) : 1 ≤ (e c).length := by
  rcases h with ⟨h, _⟩ | ⟨x, h, _⟩ <;> rw [h] <;> simp
theorem let_quote {stop : UInt8} {e : UInt8 → List UInt8} (hst : stop ≠ 38) {v rest : List UInt8} (hok : ∀ c ∈ v, OkE stop e c) :
    letM stop false ((v.flatMap e ++ stop :: rest).length + 1) [] (v.flatMap e ++ stop :: rest) = .ok v (stop :: rest) := by
  have hl := flat_ge (v := v) (e := e) fun c hc => okE_pos (hok c hc)
  rw [let_map hst v _ _ _ (by simp only [List.length_append, List.length_cons]; omega) hok]
  exact let_done (by simp only [List.length_append, List.length_cons]; omega)
theorem attr_step {ats : List At2} {r r1 r2 r3 n : List UInt8} {q : UInt8} (h1 : nameM 10 r = .ok n r1) (h2 : ats.any (fun a => a.1 == n) = false) (h3 : mustM 61 (blanksM r1) = .ok () r2) (h4 : blanksM r2 = q :: r3) (h5 : (decide (q = 34) || decide (q = 39)) = true) :
    attrM ats r = (letM q false (r3.length + 1) [] r3).bind fun v r4 => .ok (n, v) (r4.drop 1) := by
  unfold attrM
  rw [h1]
  show (ite _ _ _ : Rs At2) = _
  rw [if_neg (by rw [h2]; decide), h3]
  simp only [Rs.bind, h4, h5, if_true]
/-- an attribute is read -/
theorem attr_read {ats : List At2} {n v rest : List UInt8} {b : Bool} (hn : isN n) (ht : ∀ c ∈ v, tx c = true) (hd : ∀ a ∈ ats, a.1 ≠ n) :
    attrM ats ((pcA (b, n, v)).drop 1 ++ rest) = .ok (n, v) rest := by
  cases b with
  | true =>
    have hl : (pcA (true, n, v)).drop 1 ++ rest = n ++ (32 :: 61 :: 9 :: 39 :: (v.flatMap eA ++ 39 :: rest)) := by simp [pcA]
    rw [hl, attr_step (q := 39) (r3 := v.flatMap eA ++ 39 :: rest) (r2 := 9 :: 39 :: (v.flatMap eA ++ 39 :: rest)) (nameM_app hn (by intro c hc; simp at hc; subst hc; decide)) (any_none hd)
      (by rw [blanks_yes (by decide), blanks_no (by decide), mustM, if_pos rfl]) (by rw [blanks_yes (by decide), blanks_no (by decide)]) (by decide), let_quote (by decide) fun c hc => okE_39 (ht c hc)]
    rfl
  | false =>
    have hl : (pcA (false, n, v)).drop 1 ++ rest = n ++ (61 :: 34 :: (v.flatMap (esc1 true) ++ 34 :: rest)) := by simp [pcA, escS]
    rw [hl, attr_step (q := 34) (r3 := v.flatMap (esc1 true) ++ 34 :: rest) (r2 := 34 :: (v.flatMap (esc1 true) ++ 34 :: rest)) (nameM_app hn (by intro c hc; simp at hc; subst hc; decide)) (any_none hd)
      (by rw [blanks_no (by decide), mustM, if_pos rfl]) (by rw [blanks_no (by decide)]) (by decide), let_quote (by decide) fun c hc => okE_34 (ht c hc)]
    rfl
/-- what may stand -/
def okA (p : At2) : Prop := isN p.1 ∧ ∀ c ∈ p.2, tx c = true
theorem attrs_read {tail : List UInt8} : ∀ (bs : List (Bool × At2)) (f : Nat) (ats : List At2), bs.length ≤ f → (∀ p ∈ bs, okA p.2) → (∀ p ∈ bs, ∀ a ∈ ats, a.1 ≠ p.2.1) → (bs.map (fun p => p.2.1)).Nodup →
    attrsM f ats (bs.flatMap pcA ++ tail) = attrsM (f - bs.length) (ats ++ bs.map (·.2)) tail
  | [], f, ats, _, _, _, _ => by simp
  | p :: bs, 0, ats, h, _, _, _ => by simp at h
  | (b, n, v) :: bs, f + 1, ats, h, hok, hd, hnd => by
    have hp : okA (n, v) := hok (b, n, v) List.mem_cons_self
    have hdn : ∀ a ∈ ats, a.1 ≠ n := hd (b, n, v) List.mem_cons_self
    rw [List.map_cons, List.nodup_cons] at hnd
    have ih := attrs_read (tail := tail) bs f (ats ++ [(n, v)]) (by simpa using h) (fun p hp => hok p (List.mem_cons_of_mem _ hp)) (fun p hp a ha => by
      rcases List.mem_append.1 ha with ha | ha
      · exact hd p (List.mem_cons_of_mem _ hp) a ha
      · rw [List.mem_singleton] at ha
        subst ha
        intro he
        exact hnd.1 (he ▸ List.mem_map_of_mem (f := fun p : Bool × At2 => p.2.1) hp)) hnd.2
    have hA := attr_read (b := b) (n := n) (v := v) (rest := bs.flatMap pcA ++ tail) hp.1 hp.2 hdn
    have hn1 : isN n := hp.1
    obtain ⟨c, r, hc, hf, _⟩ := isN_first hn1
    obtain ⟨n1, n2, n3⟩ := first_not hf
    obtain ⟨c0, hc0, x, hx⟩ : ∃ c0, bl c0 = true ∧ ∃ x, pcA (b, n, v) = c0 :: c :: x := by
      cases b
      · exact ⟨32, by decide, r ++ [61, 34] ++ escS true v ++ [34], by show 32 :: (n ++ [61, 34] ++ escS true v ++ [34]) = _; rw [hc]; simp⟩
      · exact ⟨10, by decide, r ++ [32, 61, 9, 39] ++ v.flatMap eA ++ [39], by show 10 :: (n ++ [32, 61, 9, 39] ++ v.flatMap eA ++ [39]) = _; rw [hc]; simp⟩
    rw [hx] at hA
    have e1 : ((b, n, v) :: bs).flatMap pcA ++ tail = c0 :: c :: (x ++ (bs.flatMap pcA ++ tail)) := by rw [List.flatMap_cons, hx]; simp
    have e2 : blanksM (c0 :: c :: (x ++ (bs.flatMap pcA ++ tail))) = c :: (x ++ (bs.flatMap pcA ++ tail)) := by rw [blanks_yes hc0, blanks_no n1]
    rw [e1, attrsM, e2, if_neg (by intro h; have := congrArg List.length h; simp at this)]
    show (ite _ _ _ : Rs (List At2)) = _
    rw [if_neg (by simp [n2, n3])]
    have hA2 : attrM ats (c :: (x ++ (bs.flatMap pcA ++ tail))) = .ok (n, v) (bs.flatMap pcA ++ tail) := hA
    rw [hA2]
    show attrsM f (ats ++ [(n, v)]) (bs.flatMap pcA ++ tail) = _
    rw [ih]
    simp
/-- a tag's text -/
def tagT (n : List UInt8) (bs : List (Bool × At2)) : List UInt8 := 60 :: (n ++ bs.flatMap pcA)
theorem head_pc {bs : List (Bool × At2)} {tail : List UInt8} (ht : ∀ c, tail.head? = some c → isName (c.toNat : Int) = false) : ∀ c, (bs.flatMap pcA ++ tail).head? = some c → isName (c.toNat : Int) = false := by
  cases bs with
  | nil => simpa using ht
  | cons p bs =>
    obtain ⟨b, n, v⟩ := p
    intro c hc
    cases b <;> (simp [pcA] at hc; subst hc; decide)
theorem first_60 {n : List UInt8} (hn : isN n) (R : List UInt8) : noteF.isPrefixOf (60 :: (n ++ R)) = false ∧ cdF.isPrefixOf (60 :: (n ++ R)) = false ∧ headM true (60 :: (n ++ R)) = false ∧ (n ++ R).head? ≠ some 47 := by
  obtain ⟨c, r, rfl, hf, _⟩ := isN_first hn
  have h33 : c ≠ 33 := by rintro rfl; simp [isFirst] at hf
  have h63 : c ≠ 63 := by rintro rfl; simp [isFirst] at hf
  have h47 := (first_not hf).2.1
  refine ⟨?_, ?_, ?_, ?_⟩
  · simp [noteF, List.isPrefixOf, h33.symm]
  · simp [cdF, List.isPrefixOf, h33.symm]
  · simp [headM, headF, List.isPrefixOf, h63.symm]
  · simpa using h47
theorem all_tag {n : List UInt8} {bs : List (Bool × At2)} (hn : isN n) (hok : ∀ p ∈ bs, okA p.2) (hnd : (bs.map (fun p => p.2.1)).Nodup) (hlen : (tagT n bs).length + 2 ≤ 65536) :
    allM (tagT n bs ++ [32, 62]) = .ok [⟨1, n, bs.map (·.2), [], 0⟩] [] ∧ allM (tagT n bs ++ [47, 62]) = .ok [⟨2, n, bs.map (·.2), [], 0⟩] [] := by
  have key : ∀ (tail : List UInt8) (k : Int), (tail = [32, 62] ∧ k = 1) ∨ (tail = [47, 62] ∧ k = 2) → allM (tagT n bs ++ tail) = .ok [⟨k, n, bs.map (·.2), [], 0⟩] [] := by
    intro tail k htk
    have hth : ∀ c, tail.head? = some c → isName (c.toNat : Int) = false := by
      rcases htk with ⟨rfl, _⟩ | ⟨rfl, _⟩ <;> (intro c hc; simp at hc; subst hc; decide)
    have htl : tail.length = 2 := by rcases htk with ⟨rfl, _⟩ | ⟨rfl, _⟩ <;> rfl
    refine all_one (by simp [tagT]) (by rw [List.length_append, htl]; exact hlen) ?_
    obtain ⟨f1, f2, f3, f4⟩ := first_60 hn (bs.flatMap pcA ++ tail)
    have e0 : tagT n bs ++ tail = 60 :: (n ++ (bs.flatMap pcA ++ tail)) := by simp [tagT]
    rw [e0, pieceM, if_neg (by decide), if_neg (by rw [f1]; decide), if_neg (by rw [f2]; decide), if_neg (by rw [show ((0 : Nat) == 0) = true from rfl, f3]; decide), if_neg f4, openM, nameM_app hn (head_pc hth)]
    show (((attrsM ((bs.flatMap pcA ++ tail).length + 1) [] (bs.flatMap pcA ++ tail)).bind _).bind _ : Rs Tk) = _
    have hbl : bs.length ≤ (bs.flatMap pcA).length := by
      have : ∀ bs : List (Bool × At2), bs.length ≤ (bs.flatMap pcA).length := by
        intro bs
        induction bs with
        | nil => simp
        | cons p bs ih =>
          obtain ⟨b, n, v⟩ := p
          cases b <;> (simp only [List.flatMap_cons, List.length_append, List.length_cons, pcA] at ih ⊢; omega)
      exact this bs
    rw [attrs_read bs _ [] (by rw [List.length_append]; omega) hok (by simp) hnd, List.nil_append]
    obtain ⟨g, hg⟩ : ∃ g, (bs.flatMap pcA ++ tail).length + 1 - bs.length = g + 1 := ⟨(bs.flatMap pcA ++ tail).length - bs.length, by rw [List.length_append]; omega⟩
    rw [hg]
    rcases htk with ⟨rfl, rfl⟩ | ⟨rfl, rfl⟩
    · have : attrsM (g + 1) (bs.map (·.2)) [32, 62] = .ok (bs.map (·.2)) [62] := by
        rw [attrsM, if_neg (by decide)]
        rfl
      rw [this]
      rfl
    · have : attrsM (g + 1) (bs.map (·.2)) [47, 62] = .ok (bs.map (·.2)) [47, 62] := by
        rw [attrsM, if_pos (by decide)]
      rw [this]
      rfl
  exact ⟨key _ 1 (.inl ⟨rfl, rfl⟩), key _ 2 (.inr ⟨rfl, rfl⟩)⟩
end Go.Proofs.Ytldgjiohigiioaa
