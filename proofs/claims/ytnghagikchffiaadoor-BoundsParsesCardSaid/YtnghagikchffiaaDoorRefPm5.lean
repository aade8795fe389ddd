/-
  Layer 5: what the answer's Parse reads is what Parse reads: plain mathematics. Own work.
-/
import Derived.Test.YtnghagikchffiaaDoorRefWord5
namespace Go.Proofs.YtnghagikchffiaaDoor
set_option linter.unusedVariables false
set_option linter.unusedSimpArgs false
open Go.RowKit

theorem mem_tw {p : UInt8 → Bool} : ∀ {l : List UInt8} {c : UInt8}, c ∈ l.takeWhile p → p c = true
  | [], c, h => by simp at h
  | d :: l, c, h => by
    rw [List.takeWhile_cons] at h
    cases hd : p d
    · rw [hd] at h; simp at h
    · rw [hd] at h
      rcases List.mem_cons.1 h with rfl | h
      · exact hd
      · exact mem_tw h
theorem tw_all {p : UInt8 → Bool} : ∀ {l : List UInt8}, (∀ c ∈ l, p c = true) → l.takeWhile p = l
  | [], _ => rfl
  | d :: l, h => by
    rw [List.takeWhile_cons, h d (by simp), if_pos rfl, tw_all (fun c hc => h c (by simp [hc]))]
def refIv (s : List UInt8) : Option (Iv × List UInt8) :=
  if s.headD 0 ≠ 91 ∧ s.headD 0 ≠ 40 then none
  else if s.headD 0 = 91 ∧ (wordL (s.drop 1)).2.headD 0 = 93 then
    (if (wordL (s.drop 1)).1 = [] then none else some (⟨endOf (wordL (s.drop 1)).1 true, endOf (wordL (s.drop 1)).1 true⟩, skipL ((wordL (s.drop 1)).2.drop 1)))
  else if (wordL (s.drop 1)).2.headD 0 ≠ 44 then none
  else if (wordL ((wordL (s.drop 1)).2.drop 1)).2.headD 0 ≠ 93 ∧ (wordL ((wordL (s.drop 1)).2.drop 1)).2.headD 0 ≠ 41 then none
  else some (⟨endOf (wordL (s.drop 1)).1 (decide (s.headD 0 = 91)), endOf (wordL ((wordL (s.drop 1)).2.drop 1)).1 (decide ((wordL ((wordL (s.drop 1)).2.drop 1)).2.headD 0 = 93))⟩, skipL ((wordL ((wordL (s.drop 1)).2.drop 1)).2.drop 1))
def refIvs : Nat → List UInt8 → Option (List Iv)
  | 0, _ => none
  | n + 1, s => match refIv s with
    | none => none
    | some (p, r) => if r = [] then some [p] else if r.headD 0 ≠ 44 then none else (refIvs n (skipL (r.drop 1))).map (p :: ·)
def refPM (t : List UInt8) : Option (Bool × ByteArray × List Iv) :=
  if t.headD 0 ≠ 91 ∧ t.headD 0 ≠ 40 then (if mayB false (str t) [] then some (false, str t, []) else none)
  else match refIvs (t.length + 1) t with
    | none => none
    | some l => if mayB true .empty l then some (true, .empty, l) else none
/-- no blank stands last -/
def NT (l : List UInt8) : Prop := ∀ c, l.getLast? = some c → blB c = false
theorem NT.suf {l m : List UInt8} (h : NT l) (hs : m <:+ l) : NT m := fun c hc => by
  obtain ⟨u, rfl⟩ := hs
  refine h c ?_
  rw [List.getLast?_append, hc]
  rfl
theorem skip_suf (l : List UInt8) : skipL l <:+ l := List.dropWhile_suffix _
theorem word_suf (l : List UInt8) : (wordL l).2 <:+ l := (skip_suf _).trans ((List.dropWhile_suffix _).trans (skip_suf l))
theorem skip_head (l : List UInt8) : ∀ c, (skipL l).head? = some c → blB c = false := fun c hc => by
  unfold skipL at hc
  have := List.head?_dropWhile_not blB l
  rw [hc] at this
  simpa using this
theorem skip_id {l : List UInt8} (h : ∀ c, l.head? = some c → blB c = false) : skipL l = l := by
  cases l with
  | nil => rfl
  | cons c r => rw [skip_cons, h c rfl]; rfl
theorem skip_skip (l : List UInt8) : skipL (skipL l) = skipL l := skip_id (skip_head l)
theorem trim_nt {l : List UInt8} (h : NT l) : trimS (str l) = str (skipL l) := by
  refine trim_one (trimF_is _) ?_
  have hsplit := List.takeWhile_append_dropWhile (p := blB) (l := l)
  by_cases h0 : skipL l = []
  · right
    refine ⟨by rw [h0]; rfl, fun i hi => ?_⟩
    rw [str_size] at hi
    unfold skipL at h0
    rw [h0, List.append_nil] at hsplit
    have hm : l[i] ∈ l.takeWhile blB := by rw [hsplit]; exact List.getElem_mem hi
    unfold blankAt
    rw [bt_str (List.getElem?_eq_getElem hi)]
    exact mem_tw hm
  · left
    have hlen : (l.takeWhile blB).length + (skipL l).length = l.length := by
      rw [← List.length_append]; exact congrArg List.length hsplit
    have hpos : 1 ≤ (skipL l).length := by
      cases hs : skipL l with
      | nil => exact absurd hs h0
      | cons c r => simp
    have hdrop : l.drop (l.takeWhile blB).length = skipL l := by
      have h1 : (l.takeWhile blB ++ skipL l).drop (l.takeWhile blB).length = skipL l := List.drop_left' rfl
      rw [show l.takeWhile blB ++ skipL l = l from hsplit] at h1
      exact h1
    refine ⟨(l.takeWhile blB).length, l.length, by omega, by rw [str_size]; exact Nat.le_refl _, ?_, fun i hi => ?_, ?_, fun j h1 h2 => by rw [str_size] at h2; omega, ?_⟩
    · have := drop_str l (l.takeWhile blB).length
      rw [str_size] at this
      rw [this, hdrop]
    · have hil : i < l.length := by omega
      unfold blankAt
      rw [bt_str (List.getElem?_eq_getElem hil)]
      have hg : (l.takeWhile blB)[i]? = some l[i] := by
        have h2 : (l.takeWhile blB ++ skipL l)[i]? = (l.takeWhile blB)[i]? := List.getElem?_append_left hi
        rw [show l.takeWhile blB ++ skipL l = l from hsplit, List.getElem?_eq_getElem hil] at h2
        exact h2.symm
      exact mem_tw (List.mem_of_getElem? hg)
    · have hil : (l.takeWhile blB).length < l.length := by omega
      unfold blankAt
      rw [bt_str (List.getElem?_eq_getElem hil)]
      refine skip_head l _ ?_
      rw [← hdrop, List.head?_drop, List.getElem?_eq_getElem hil]
    · have hil : l.length - 1 < l.length := by omega
      unfold blankAt
      rw [bt_str (List.getElem?_eq_getElem hil)]
      refine h _ ?_
      rw [List.getLast?_eq_getElem?, List.getElem?_eq_getElem hil]
theorem drop_nt {l : List UInt8} (h : NT l) : dropS (str l) = str (skipL (l.drop 1)) := by
  unfold dropS
  rw [drop_str]
  exact trim_nt (h.suf (List.drop_suffix 1 l))
theorem next_hd (l : List UInt8) : nextS (str l) = ((l.headD 0).toNat : Int) := by
  unfold nextS
  rw [str_data]
theorem next_eq (l : List UInt8) (n : UInt8) : nextS (str l) = (n.toNat : Int) ↔ l.headD 0 = n := by
  rw [next_hd]
  constructor
  · intro h; exact UInt8.toNat_inj.1 (by omega)
  · intro h; rw [h]
theorem next91 (l : List UInt8) : nextS (str l) = 91 ↔ l.headD 0 = 91 := next_eq l 91
theorem next93 (l : List UInt8) : nextS (str l) = 93 ↔ l.headD 0 = 93 := next_eq l 93
theorem next40 (l : List UInt8) : nextS (str l) = 40 ↔ l.headD 0 = 40 := next_eq l 40
theorem next41 (l : List UInt8) : nextS (str l) = 41 ↔ l.headD 0 = 41 := next_eq l 41
theorem next44 (l : List UInt8) : nextS (str l) = 44 ↔ l.headD 0 = 44 := next_eq l 44
theorem ver_go {c : UInt8} (h : verB c = true) : goB c = true := by
  have hb := ver_nb h
  unfold goB stopB blB
  rw [hb]
  by_cases h1 : c = 91
  · subst h1; revert h; decide
  by_cases h2 : c = 93
  · subst h2; revert h; decide
  by_cases h3 : c = 40
  · subst h3; revert h; decide
  by_cases h4 : c = 41
  · subst h4; revert h; decide
  by_cases h5 : c = 44
  · subst h5; revert h; decide
  simp [h1, h2, h3, h4, h5]
/-- the first that is not taken -/
theorem while_parts (p : UInt8 → Bool) (l : List UInt8) : (∃ c r, l.dropWhile p = c :: r ∧ p c = false) ∨ l.dropWhile p = [] := by
  cases h : l.dropWhile p with
  | nil => exact .inr rfl
  | cons c r =>
    left
    refine ⟨c, r, rfl, ?_⟩
    have := List.head?_dropWhile_not p l
    rw [h] at this
    simpa using this
theorem take_mid (m : List UInt8) (h : ∀ c ∈ m.takeWhile goB, verB c = true) : m.takeWhile verB = m.takeWhile goB ∧ m.dropWhile verB = m.dropWhile goB := by
  have hs := List.takeWhile_append_dropWhile (p := goB) (l := m)
  have hv : m.takeWhile verB = m.takeWhile goB := by
    rcases while_parts goB m with ⟨c, r, hd, hc⟩ | hd
    · have hvc : verB c = false := by
        cases hh : verB c
        · rfl
        · rw [ver_go hh] at hc; cases hc
      have := take_while_stop (p := verB) (u := m.takeWhile goB) (c := c) (l := r) h hvc
      rw [← hd, hs] at this
      exact this
    · rw [hd, List.append_nil] at hs
      have e : m.takeWhile goB = m := hs
      rw [e] at h ⊢
      exact tw_all h
  refine ⟨hv, ?_⟩
  have h2 := List.takeWhile_append_dropWhile (p := verB) (l := m)
  rw [hv] at h2
  exact List.append_cancel_left (h2.trans hs.symm)
theorem end_ok {x : List UInt8} (hx : NT x) (closed : Bool) (h : ∀ c ∈ (wordL x).1, verB c = true) : endM (str (skipL x)) closed = (endOf (wordL x).1 closed, str (wordL x).2) := by
  have hm : NT (skipL x) := hx.suf (skip_suf x)
  obtain ⟨h1, h2⟩ := take_mid (skipL x) h
  unfold wordL
  simp only
  unfold endM spanV endOf
  rw [str_data, h1]
  by_cases h0 : (skipL x).takeWhile goB = []
  · rw [h0]
    simp only [List.length_nil, if_true]
    have : (skipL x).dropWhile goB = skipL x := by
      have := List.takeWhile_append_dropWhile (p := goB) (l := skipL x)
      rw [h0, List.nil_append] at this
      exact this
    rw [this, skip_skip]
  · have hl : ((skipL x).takeWhile goB).length ≠ 0 := fun h => h0 (List.eq_nil_of_length_eq_zero h)
    rw [if_neg hl, if_neg h0, take_str, drop_str]
    have hs := List.takeWhile_append_dropWhile (p := goB) (l := skipL x)
    have ht : (skipL x).take ((skipL x).takeWhile goB).length = (skipL x).takeWhile goB := by
      have : ((skipL x).takeWhile goB ++ (skipL x).dropWhile goB).take ((skipL x).takeWhile goB).length = (skipL x).takeWhile goB := List.take_left' rfl
      rw [hs] at this; exact this
    have hd : (skipL x).drop ((skipL x).takeWhile goB).length = (skipL x).dropWhile goB := by
      have : ((skipL x).takeWhile goB ++ (skipL x).dropWhile goB).drop ((skipL x).takeWhile goB).length = (skipL x).dropWhile goB := List.drop_left' rfl
      rw [hs] at this; exact this
    rw [ht, hd, trim_nt (hm.suf (List.dropWhile_suffix _))]
theorem end_no {x : List UInt8} (hx : NT x) (closed : Bool) (h : ¬ ∀ c ∈ (wordL x).1, verB c = true) : ∃ c r, (endM (str (skipL x)) closed).2 = str (c :: r) ∧ goB c = true := by
  have hm : NT (skipL x) := hx.suf (skip_suf x)
  have hsg := List.takeWhile_append_dropWhile (p := goB) (l := skipL x)
  have hsv := List.takeWhile_append_dropWhile (p := verB) (l := skipL x)
  -- the first byte that may not stand in a version lies within the word
  obtain ⟨c, r, hd, hc, hg⟩ : ∃ c r, (skipL x).dropWhile verB = c :: r ∧ verB c = false ∧ goB c = true := by
    rcases while_parts verB (skipL x) with ⟨c, r, hd, hc⟩ | hd
    · refine ⟨c, r, hd, hc, ?_⟩
      cases hg : goB c
      · exfalso
        apply h
        have := take_while_stop (p := goB) (u := (skipL x).takeWhile verB) (c := c) (l := r) (fun d hd => ver_go (mem_tw hd)) hg
        rw [← hd, hsv] at this
        intro d hdm
        have hdm' : d ∈ (skipL x).takeWhile goB := hdm
        rw [this] at hdm'
        exact mem_tw hdm'
      · rfl
    · exfalso
      apply h
      rw [hd, List.append_nil] at hsv
      intro d hdm
      have hdm' : d ∈ (skipL x).takeWhile goB := hdm
      have : d ∈ skipL x := (List.takeWhile_prefix goB).subset hdm'
      rw [← hsv] at this
      exact mem_tw this
  have hnb : blB c = false := by
    cases hb : blB c
    · rfl
    · unfold goB stopB at hg
      rw [hb] at hg
      simp at hg
  refine ⟨c, r, ?_, hg⟩
  unfold endM spanV
  rw [str_data]
  by_cases h0 : ((skipL x).takeWhile verB).length = 0
  · rw [if_pos h0]
    rw [List.length_eq_zero_iff.1 h0, List.nil_append] at hsv
    rw [← hsv, hd]
  · rw [if_neg h0, drop_str]
    have hdr : (skipL x).drop ((skipL x).takeWhile verB).length = c :: r := by
      have : ((skipL x).takeWhile verB ++ (skipL x).dropWhile verB).drop ((skipL x).takeWhile verB).length = (skipL x).dropWhile verB := List.drop_left' rfl
      rw [hsv, hd] at this; exact this
    have hnt : NT (c :: r) := by rw [← hd]; exact hm.suf (List.dropWhile_suffix _)
    show trimS (str _) = _
    rw [hdr, trim_nt hnt, skip_cons, hnb]
    rfl
theorem go_next {c : UInt8} {r : List UInt8} (h : goB c = true) : nextS (str (c :: r)) ≠ 44 ∧ nextS (str (c :: r)) ≠ 93 ∧ nextS (str (c :: r)) ≠ 41 := by
  have hh : ∀ n : UInt8, goB n = false → nextS (str (c :: r)) ≠ (n.toNat : Int) := fun n hn he => by
    have := (next_eq (c :: r) n).1 he
    simp only [List.headD_cons] at this
    subst this
    rw [h] at hn
    cases hn
  exact ⟨hh 44 rfl, hh 93 rfl, hh 41 rfl⟩
def VerOk (p : Iv) : Prop := (∀ c ∈ vE p.lo, verB c = true) ∧ (∀ c ∈ vE p.hi, verB c = true)
theorem vE_endOf (u : List UInt8) (b : Bool) : vE (endOf u b) = u := by
  unfold endOf vE
  split
  · rename_i h; rw [h]; rfl
  · exact str_data u
theorem endOf_cl (u : List UInt8) (a b : Bool) : (⟨(endOf u a).has, (endOf u a).ver, (endOf u a).has && b⟩ : En) = endOf u b := by
  unfold endOf
  split <;> rfl
theorem endOf_has (u : List UInt8) (b : Bool) : (endOf u b).has = !decide (u = []) := by
  unfold endOf
  split
  · rename_i h; simp [h]
  · rename_i h; simp [h]
theorem iv_ref {s : List UInt8} (hs : NT s) :
    match refIv s with
    | none => ivM (str s) = none
    | some (p, r) => (VerOk p → ivM (str s) = some (p, str r)) ∧ (¬ VerOk p → ivM (str s) = none) ∧ NT r ∧ r.length < s.length := by
  unfold refIv
  by_cases h0 : s.headD 0 ≠ 91 ∧ s.headD 0 ≠ 40
  · rw [if_pos h0]
    simp only
    unfold ivM
    rw [if_neg (fun h => by
      rcases h with h | h
      · exact h0.1 ((next91 s).1 h)
      · exact h0.2 ((next40 s).1 h))]
  rw [if_neg h0]
  have ho : nextS (str s) = 91 ∨ nextS (str s) = 40 := by
    by_cases h : s.headD 0 = 91
    · exact .inl ((next91 s).2 h)
    · refine .inr ((next40 s).2 ?_)
      by_cases h2 : s.headD 0 = 40
      · exact h2
      · exact absurd ⟨h, h2⟩ h0
  have hpos : 1 ≤ s.length := by
    cases s with
    | nil => exact absurd ⟨by decide, by decide⟩ h0
    | cons c r => simp
  have hcl : decide (nextS (str s) = 91) = decide (s.headD 0 = 91) := by
    by_cases h : s.headD 0 = 91
    · rw [decide_eq_true h, decide_eq_true ((next91 s).2 h)]
    · rw [decide_eq_false h, decide_eq_false (fun hh => h ((next91 s).1 hh))]
  have n1 : NT (s.drop 1) := hs.suf (List.drop_suffix 1 s)
  have n2 : NT (wordL (s.drop 1)).2 := n1.suf (word_suf _)
  have l2 : (wordL (s.drop 1)).2.length + 1 ≤ s.length := by
    have := (word_suf (s.drop 1)).length_le
    rw [List.length_drop] at this; omega
  have hiv : ivM (str s) = (if nextS (endM (str (skipL (s.drop 1))) (decide (s.headD 0 = 91))).2 = 44 then
      (if nextS (endM (dropS (endM (str (skipL (s.drop 1))) (decide (s.headD 0 = 91))).2) false).2 = 93 ∨ nextS (endM (dropS (endM (str (skipL (s.drop 1))) (decide (s.headD 0 = 91))).2) false).2 = 41 then
        some (⟨(endM (str (skipL (s.drop 1))) (decide (s.headD 0 = 91))).1, ⟨(endM (dropS (endM (str (skipL (s.drop 1))) (decide (s.headD 0 = 91))).2) false).1.has, (endM (dropS (endM (str (skipL (s.drop 1))) (decide (s.headD 0 = 91))).2) false).1.ver, (endM (dropS (endM (str (skipL (s.drop 1))) (decide (s.headD 0 = 91))).2) false).1.has && decide (nextS (endM (dropS (endM (str (skipL (s.drop 1))) (decide (s.headD 0 = 91))).2) false).2 = 93)⟩⟩, dropS (endM (dropS (endM (str (skipL (s.drop 1))) (decide (s.headD 0 = 91))).2) false).2) else none)
      else if decide (s.headD 0 = 91) && (endM (str (skipL (s.drop 1))) (decide (s.headD 0 = 91))).1.has && decide (nextS (endM (str (skipL (s.drop 1))) (decide (s.headD 0 = 91))).2 = 93) then
        some (⟨(endM (str (skipL (s.drop 1))) (decide (s.headD 0 = 91))).1, (endM (str (skipL (s.drop 1))) (decide (s.headD 0 = 91))).1⟩, dropS (endM (str (skipL (s.drop 1))) (decide (s.headD 0 = 91))).2) else none) := by
    unfold ivM
    rw [if_pos ho]
    simp only [hcl, drop_nt hs]
  rw [hiv]
  clear hiv
  by_cases hlo : ∀ c ∈ (wordL (s.drop 1)).1, verB c = true
  case neg =>
    -- a first word that no version is
    have hnone : ∀ {x : Option (Iv × ByteArray)} {y : Iv × ByteArray}, (if nextS (endM (str (skipL (s.drop 1))) (decide (s.headD 0 = 91))).2 = 44 then x else if decide (s.headD 0 = 91) && (endM (str (skipL (s.drop 1))) (decide (s.headD 0 = 91))).1.has && decide (nextS (endM (str (skipL (s.drop 1))) (decide (s.headD 0 = 91))).2 = 93) then some y else none) = none := fun {x y} => by
      obtain ⟨c, r, he, hg⟩ := end_no n1 (decide (s.headD 0 = 91)) hlo
      obtain ⟨g1, g2, _⟩ := go_next (r := r) hg
      rw [he, if_neg g1, decide_eq_false g2, Bool.and_false]
      rfl
    rw [hnone]
    by_cases h1 : s.headD 0 = 91 ∧ (wordL (s.drop 1)).2.headD 0 = 93
    · rw [if_pos h1]
      by_cases h2 : (wordL (s.drop 1)).1 = []
      · rw [if_pos h2]
      · rw [if_neg h2]
        refine ⟨fun hv => absurd (fun c hc => hv.1 c (by rw [vE_endOf]; exact hc)) hlo, fun _ => rfl, (n2.suf (List.drop_suffix 1 _)).suf (skip_suf _), ?_⟩
        have := (skip_suf ((wordL (s.drop 1)).2.drop 1)).length_le
        rw [List.length_drop] at this; omega
    rw [if_neg h1]
    by_cases h2 : (wordL (s.drop 1)).2.headD 0 ≠ 44
    · rw [if_pos h2]
    rw [if_neg h2]
    by_cases h3 : (wordL ((wordL (s.drop 1)).2.drop 1)).2.headD 0 ≠ 93 ∧ (wordL ((wordL (s.drop 1)).2.drop 1)).2.headD 0 ≠ 41
    · rw [if_pos h3]
    rw [if_neg h3]
    refine ⟨fun hv => absurd (fun c hc => hv.1 c (by rw [vE_endOf]; exact hc)) hlo, fun _ => rfl, ?_, ?_⟩
    · exact ((n2.suf (List.drop_suffix 1 _)).suf (word_suf _)).suf ((skip_suf _).trans (List.drop_suffix 1 _))
    · have e1 := (skip_suf ((wordL ((wordL (s.drop 1)).2.drop 1)).2.drop 1)).length_le
      have e2 := (word_suf ((wordL (s.drop 1)).2.drop 1)).length_le
      rw [List.length_drop] at e1 e2; omega
  -- the first word is a version, or there is none
  rw [end_ok n1 _ hlo]
  simp only
  by_cases h1 : s.headD 0 = 91 ∧ (wordL (s.drop 1)).2.headD 0 = 93
  · rw [if_pos h1]
    have e93 : nextS (str (wordL (s.drop 1)).2) = 93 := (next93 _).2 h1.2
    have ne44 : ¬ nextS (str (wordL (s.drop 1)).2) = 44 := by rw [e93]; decide
    by_cases h2 : (wordL (s.drop 1)).1 = []
    · rw [if_pos h2]
      simp only
      rw [if_neg ne44, endOf_has, decide_eq_true h1.1, decide_eq_true e93, decide_eq_true h2]
      rfl
    · rw [if_neg h2]
      simp only
      rw [if_neg ne44, endOf_has, decide_eq_true h1.1, decide_eq_true e93, decide_eq_false h2]
      refine ⟨fun _ => ?_, fun hv => absurd ⟨fun c hc => hlo c (by rw [vE_endOf] at hc; exact hc), fun c hc => hlo c (by rw [vE_endOf] at hc; exact hc)⟩ hv, (n2.suf (List.drop_suffix 1 _)).suf (skip_suf _), ?_⟩
      · rw [drop_nt n2]; rfl
      · have := (skip_suf ((wordL (s.drop 1)).2.drop 1)).length_le
        rw [List.length_drop] at this; omega
  rw [if_neg h1]
  by_cases h2 : (wordL (s.drop 1)).2.headD 0 ≠ 44
  · rw [if_pos h2]
    simp only
    rw [if_neg (fun h => h2 ((next44 _).1 h))]
    have : (decide (s.headD 0 = 91) && (endOf (wordL (s.drop 1)).1 (decide (s.headD 0 = 91))).has && decide (nextS (str (wordL (s.drop 1)).2) = 93)) = false := by
      by_cases ha : s.headD 0 = 91
      · have hb : ¬ nextS (str (wordL (s.drop 1)).2) = 93 := fun h => h1 ⟨ha, (next93 _).1 h⟩
        rw [decide_eq_false hb, Bool.and_false]
      · rw [decide_eq_false ha]; rfl
    rw [this]
    rfl
  rw [if_neg h2]
  have e44 : nextS (str (wordL (s.drop 1)).2) = 44 := (next44 _).2 (by
    by_cases h : (wordL (s.drop 1)).2.headD 0 = 44
    · exact h
    · exact absurd h h2)
  simp only [e44, if_true, drop_nt n2]
  have n3 : NT ((wordL (s.drop 1)).2.drop 1) := n2.suf (List.drop_suffix 1 _)
  have n4 : NT (wordL ((wordL (s.drop 1)).2.drop 1)).2 := n3.suf (word_suf _)
  by_cases hhi : ∀ c ∈ (wordL ((wordL (s.drop 1)).2.drop 1)).1, verB c = true
  case neg =>
    obtain ⟨c, r, he, hg⟩ := end_no n3 false hhi
    obtain ⟨_, g2, g3⟩ := go_next (r := r) hg
    have hno : ¬ (nextS (endM (str (skipL ((wordL (s.drop 1)).2.drop 1))) false).2 = 93 ∨ nextS (endM (str (skipL ((wordL (s.drop 1)).2.drop 1))) false).2 = 41) := by
      rw [he]
      exact fun h => by rcases h with h | h; exact g2 h; exact g3 h
    by_cases h3 : (wordL ((wordL (s.drop 1)).2.drop 1)).2.headD 0 ≠ 93 ∧ (wordL ((wordL (s.drop 1)).2.drop 1)).2.headD 0 ≠ 41
    · rw [if_pos h3]
      simp only
      rw [if_neg hno]
    rw [if_neg h3]
    simp only
    rw [if_neg hno]
    refine ⟨fun hv => absurd (fun c hc => hv.2 c (by rw [vE_endOf]; exact hc)) hhi, fun _ => rfl, n4.suf ((skip_suf _).trans (List.drop_suffix 1 _)), ?_⟩
    have e1 := (skip_suf ((wordL ((wordL (s.drop 1)).2.drop 1)).2.drop 1)).length_le
    have e2 := (word_suf ((wordL (s.drop 1)).2.drop 1)).length_le
    rw [List.length_drop] at e1 e2; omega
  rw [end_ok n3 _ hhi]
  simp only
  by_cases h3 : (wordL ((wordL (s.drop 1)).2.drop 1)).2.headD 0 ≠ 93 ∧ (wordL ((wordL (s.drop 1)).2.drop 1)).2.headD 0 ≠ 41
  · rw [if_pos h3]
    simp only
    rw [if_neg (fun h => by
      rcases h with h | h
      · exact h3.1 ((next93 _).1 h)
      · exact h3.2 ((next41 _).1 h))]
  rw [if_neg h3]
  simp only
  have hsh : nextS (str (wordL ((wordL (s.drop 1)).2.drop 1)).2) = 93 ∨ nextS (str (wordL ((wordL (s.drop 1)).2.drop 1)).2) = 41 := by
    by_cases ha : (wordL ((wordL (s.drop 1)).2.drop 1)).2.headD 0 = 93
    · exact .inl ((next93 _).2 ha)
    · refine .inr ((next41 _).2 ?_)
      by_cases hb : (wordL ((wordL (s.drop 1)).2.drop 1)).2.headD 0 = 41
      · exact hb
      · exact absurd ⟨ha, hb⟩ h3
  have hd93 : decide (nextS (str (wordL ((wordL (s.drop 1)).2.drop 1)).2) = 93) = decide ((wordL ((wordL (s.drop 1)).2.drop 1)).2.headD 0 = 93) := by
    by_cases h : (wordL ((wordL (s.drop 1)).2.drop 1)).2.headD 0 = 93
    · rw [decide_eq_true h, decide_eq_true ((next93 _).2 h)]
    · rw [decide_eq_false h, decide_eq_false (fun hh => h ((next93 _).1 hh))]
  rw [if_pos hsh, hd93, endOf_cl]
  refine ⟨fun _ => ?_, fun hv => absurd ⟨fun c hc => hlo c (by rw [vE_endOf] at hc; exact hc), fun c hc => hhi c (by rw [vE_endOf] at hc; exact hc)⟩ hv, n4.suf ((skip_suf _).trans (List.drop_suffix 1 _)), ?_⟩
  · rw [drop_nt n4]
  · have e1 := (skip_suf ((wordL ((wordL (s.drop 1)).2.drop 1)).2.drop 1)).length_le
    have e2 := (word_suf ((wordL (s.drop 1)).2.drop 1)).length_le
    rw [List.length_drop] at e1 e2; omega
/-- Parse's intervals, from a text on -/
def fromIv (k : Nat) (s : List UInt8) : Option (List Iv) := match ivM (str s) with
  | some (p, r) => (ivsM k r).map (p :: ·)
  | none => none
theorem ivAll_from (s : List UInt8) : ivAll (str s) = fromIv (s.length + 1) s := by
  unfold ivAll fromIv
  rw [str_size]
  rfl
theorem ivs_from {r : List UInt8} (k : Nat) (hr : NT r) (h0 : r ≠ []) : ivsM (k + 1) (str r) = if r.headD 0 = 44 then fromIv k (skipL (r.drop 1)) else none := by
  rw [ivsM, if_neg (by rw [str_size]; exact fun h => h0 (List.eq_nil_of_length_eq_zero h))]
  by_cases h : r.headD 0 = 44
  · rw [if_pos h, if_pos ((next44 r).2 h), drop_nt hr]
    rfl
  · rw [if_neg h, if_neg (fun hh => h ((next44 r).1 hh))]
theorem ivs_ref : ∀ (n k : Nat) (s : List UInt8), NT s → s.length < n → s.length < k →
    match refIvs n s with
    | none => fromIv k s = none
    | some l => ((∀ p ∈ l, VerOk p) → fromIv k s = some l) ∧ (¬ (∀ p ∈ l, VerOk p) → fromIv k s = none)
  | 0, k, s, _, h, _ => by omega
  | n + 1, k, s, hs, hn, hk => by
    obtain ⟨k, rfl⟩ : ∃ k', k = k' + 1 := ⟨k - 1, by omega⟩
    have hiv := iv_ref hs
    unfold refIvs fromIv
    cases hri : refIv s with
    | none =>
      rw [hri] at hiv
      simp only at hiv ⊢
      rw [hiv]
    | some pr =>
      obtain ⟨p, r⟩ := pr
      rw [hri] at hiv
      simp only at hiv ⊢
      obtain ⟨v1, v2, nr, lr⟩ := hiv
      by_cases hv : VerOk p
      · rw [v1 hv]
        simp only
        by_cases hr0 : r = []
        · rw [if_pos hr0]
          subst hr0
          refine ⟨fun _ => rfl, fun h => absurd (fun q hq => ?_) h⟩
          simp at hq; subst hq; exact hv
        · rw [if_neg hr0, ivs_from k nr hr0]
          by_cases h44 : r.headD 0 ≠ 44
          · rw [if_pos h44, if_neg h44]
            rfl
          · rw [if_neg h44, if_pos (Classical.not_not.1 h44)]
            have hlen : (skipL (r.drop 1)).length + 1 ≤ r.length := by
              have h1 := (skip_suf (r.drop 1)).length_le
              rw [List.length_drop] at h1
              have : r.length ≠ 0 := fun h => hr0 (List.eq_nil_of_length_eq_zero h)
              omega
            have ih := ivs_ref n k (skipL (r.drop 1)) (nr.suf ((skip_suf _).trans (List.drop_suffix 1 r))) (by omega) (by omega)
            cases hq : refIvs n (skipL (r.drop 1)) with
            | none =>
              rw [hq] at ih
              simp only [Option.map_none] at ih ⊢
              rw [ih]
              rfl
            | some l =>
              rw [hq] at ih
              simp only [Option.map_some] at ih ⊢
              refine ⟨fun h => ?_, fun h => ?_⟩
              · rw [ih.1 (fun q hq => h q (by simp [hq]))]; rfl
              · rw [ih.2 (fun h' => h (fun q hq => by
                  rcases List.mem_cons.1 hq with rfl | hq
                  · exact hv
                  · exact h' q hq))]
                rfl
      · rw [v2 hv]
        simp only
        by_cases hr0 : r = []
        · rw [if_pos hr0]
          exact ⟨fun h => absurd (h p (by simp)) hv, fun _ => by trivial⟩
        · rw [if_neg hr0]
          by_cases h44 : r.headD 0 ≠ 44
          · rw [if_pos h44]; trivial
          · rw [if_neg h44]
            cases hq : refIvs n (skipL (r.drop 1)) with
            | none => simp only [Option.map_none]
            | some l =>
              simp only [Option.map_some]
              exact ⟨fun h => absurd (h p (by simp)) hv, fun _ => by trivial⟩
theorem okE_ver {e : En} (h : OkE e) : ∀ c ∈ vE e, verB c = true := by
  rcases h with ⟨_, _, h⟩ | ⟨_, h, _⟩
  · exact h
  · intro c hc
    unfold vE at hc
    rw [h] at hc
    exact absurd hc (show ¬ c ∈ ([] : List UInt8) by simp)
theorem okRow_ver {l : List Iv} (h : okRow l = true) : ∀ p ∈ l, VerOk p := fun p hp => ⟨okE_ver (okRow_ok h p hp).1, okE_ver (okRow_ok h p hp).2⟩
theorem trim_nt_of {s : ByteArray} {t : List UInt8} (h : TrimIs s (str t)) : NT t := by
  rcases h with ⟨F, T, h1, h2, h3, h4, h5, h6, h7⟩ | ⟨h1, _⟩
  · rw [ext_str] at h3
    have ht : t = (s.data.toList.take T).drop F := by
      have := congrArg (fun b : ByteArray => b.data.toList) h3
      simpa [str] using this
    have hls : s.data.toList.length = s.size := Array.length_toList
    intro c hc
    have hlen : t.length = T - F := by rw [ht, List.length_drop, List.length_take]; omega
    rw [List.getLast?_eq_getElem?, hlen] at hc
    have hc2 : s.data.toList[T - 1]? = some c := by
      rw [ht, List.getElem?_drop, List.getElem?_take] at hc
      rw [if_pos (by omega), show F + (T - F - 1) = T - 1 by omega] at hc
      exact hc
    have hb := bt_list s (T - 1) (by omega)
    rw [hc2] at hb
    unfold blankAt bt at h7
    cases hb
    exact h7
  · have ht : t = [] := by
      have := congrArg (fun b : ByteArray => b.data.toList) h1
      simpa [str] using this
    subst ht
    intro c hc
    simp at hc
theorem parse_ref {s : ByteArray} {t : List UInt8} (h : TrimIs s (str t)) : parseM s = refPM t := by
  have hts : trimS s = str t := trim_one (trimF_is s) h
  have hnt := trim_nt_of h
  unfold parseM refPM
  rw [hts]
  by_cases h0 : t.headD 0 ≠ 91 ∧ t.headD 0 ≠ 40
  · rw [if_pos h0, if_neg (fun hh => by
      rcases hh with hh | hh
      · exact h0.1 ((next91 t).1 hh)
      · exact h0.2 ((next40 t).1 hh))]
  · rw [if_neg h0]
    have ho : nextS (str t) = 91 ∨ nextS (str t) = 40 := by
      by_cases h : t.headD 0 = 91
      · exact .inl ((next91 t).2 h)
      · refine .inr ((next40 t).2 ?_)
        by_cases h2 : t.headD 0 = 40
        · exact h2
        · exact absurd ⟨h, h2⟩ h0
    rw [if_pos ho, ivAll_from]
    have hr := ivs_ref (t.length + 1) (t.length + 1) t hnt (by omega) (by omega)
    cases hq : refIvs (t.length + 1) t with
    | none =>
      rw [hq] at hr
      simp only at hr ⊢
      rw [hr]
    | some l =>
      rw [hq] at hr
      simp only at hr ⊢
      by_cases hv : ∀ p ∈ l, VerOk p
      · rw [hr.1 hv]
      · rw [hr.2 hv]
        have hf : mayB true .empty l = false := by
          cases hm : mayB true .empty l
          · rfl
          · exfalso
            apply hv
            unfold mayB at hm
            simp only [if_true, Bool.and_eq_true] at hm
            exact okRow_ver hm.2
        rw [hf]
        rfl
end Go.Proofs.YtnghagikchffiaaDoor
