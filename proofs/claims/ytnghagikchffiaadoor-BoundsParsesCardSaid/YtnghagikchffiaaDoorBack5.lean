/-
  Layer 5: what is printed is read as the same: plain mathematics. Own work.
-/
import Derived.Test.YtnghagikchffiaaDoorParse5b
import Derived.Test.YtnghagikchffiaaDoorSame5
import Derived.Lib.Join
namespace Go.Proofs.YtnghagikchffiaaDoor
set_option linter.unusedVariables false
set_option linter.unusedSimpArgs false
open Go.RowKit

def NB (l : List UInt8) : Prop := ∀ c ∈ l, blankN c.toNat = false
theorem NB.cons {c : UInt8} {l : List UInt8} (h : NB (c :: l)) : NB l := fun d hd => h d (by simp [hd])
theorem NB.app {l m : List UInt8} (h : NB l) (k : NB m) : NB (l ++ m) := fun d hd => by
  rcases List.mem_append.1 hd with hd | hd
  · exact h d hd
  · exact k d hd
theorem str_size (l : List UInt8) : (str l).size = l.length := by simp [str, ByteArray.size]
theorem str_data (l : List UInt8) : (str l).data.toList = l := by simp [str]
theorem str_of (s : ByteArray) : str s.data.toList = s := by
  apply ByteArray.ext
  simp [str]
theorem bt_str {l : List UInt8} {i : Nat} {c : UInt8} (h : l[i]? = some c) : bt (str l) i = c.toNat := by
  have hi : i < (str l).size := by rw [str_size]; exact (List.getElem?_eq_some_iff.1 h).1
  have h1 := bt_list (str l) i hi
  rw [str_data, h] at h1
  unfold bt
  cases h1
  rfl
theorem drop_str (l : List UInt8) (k : Nat) : (str l).extract k (str l).size = str (l.drop k) := by
  rw [ext_str, str_data, str_size, List.take_length]
theorem take_str (l : List UInt8) (k : Nat) : (str l).extract 0 k = str (l.take k) := by
  rw [ext_str, str_data, List.drop_zero]
theorem blank_at {l : List UInt8} (h : NB l) {i : Nat} (hi : i < l.length) : blankAt (str l) i = false := by
  unfold blankAt
  rw [bt_str (List.getElem?_eq_getElem hi)]
  exact h _ (List.getElem_mem hi)
theorem trim_nb {l : List UInt8} (h : NB l) : trimS (str l) = str l := by
  refine trim_one (trimF_is (str l)) ?_
  by_cases h0 : l.length = 0
  · right
    obtain rfl := List.length_eq_zero_iff.1 h0
    exact ⟨rfl, fun i hi => by simp [str_size] at hi⟩
  · left
    refine ⟨0, l.length, by omega, by rw [str_size]; exact Nat.le_refl _, ?_, fun i hi => by omega, blank_at h (by omega), fun j h1 h2 => by rw [str_size] at h2; omega, blank_at h (by omega)⟩
    rw [take_str, List.take_length]
theorem trim_wrap {l : List UInt8} (h : NB l) (h0 : l ≠ []) : trimS (str (32 :: 10 :: (l ++ [9]))) = str l := by
  refine trim_one (trimF_is _) ?_
  left
  have hl : 1 ≤ l.length := by cases l with
    | nil => exact absurd rfl h0
    | cons c r => simp
  have hat : ∀ i, i < l.length → bt (str (32 :: 10 :: (l ++ [9]))) (2 + i) = bt (str l) i := fun i hi => by
    rw [bt_str (List.getElem?_eq_getElem hi)]
    refine bt_str ?_
    rw [Nat.add_comm 2 i]
    simp [List.getElem?_append_left hi]
  refine ⟨2, 2 + l.length, by omega, by rw [str_size]; simp; omega, ?_, fun i hi => ?_, ?_, fun j h1 h2 => ?_, ?_⟩
  · rw [ext_str, str_data, show 2 + l.length = l.length + 2 by omega]
    simp
  · unfold blankAt
    have : i = 0 ∨ i = 1 := by omega
    rcases this with rfl | rfl
    · rw [bt_str (c := 32) rfl]; rfl
    · rw [bt_str (c := 10) rfl]; rfl
  · have := blank_at h (i := 0) (by omega)
    unfold blankAt at this ⊢
    rw [← hat 0 (by omega)] at this
    exact this
  · rw [str_size] at h2
    simp at h2
    have hj : j = 2 + l.length := by omega
    subst hj
    unfold blankAt
    rw [bt_str (c := 9) (by rw [Nat.add_comm]; simp)]
    rfl
  · have := blank_at h (i := l.length - 1) (by omega)
    unfold blankAt at this ⊢
    rw [← hat (l.length - 1) (by omega)] at this
    rw [show 2 + l.length - 1 = 2 + (l.length - 1) by omega]
    exact this
theorem drop_nb {c : UInt8} {l : List UInt8} (h : NB l) : dropS (str (c :: l)) = str l := by
  unfold dropS
  rw [drop_str]
  exact trim_nb h
theorem next_str (c : UInt8) (l : List UInt8) : nextS (str (c :: l)) = (c.toNat : Int) := by
  unfold nextS
  rw [str_data]; rfl
theorem ver_nb {c : UInt8} (h : verB c = true) : blankN c.toNat = false := by
  cases hb : blankN c.toNat
  · rfl
  · exfalso
    unfold blankN at hb
    simp only [Bool.or_eq_true, beq_iff_eq] at hb
    have : c = 32 ∨ c = 9 ∨ c = 10 ∨ c = 13 := by
      rcases hb with ((hb | hb) | hb) | hb
      · left; exact UInt8.toNat_inj.1 hb
      · right; left; exact UInt8.toNat_inj.1 hb
      · right; right; left; exact UInt8.toNat_inj.1 hb
      · right; right; right; exact UInt8.toNat_inj.1 hb
    rcases this with rfl | rfl | rfl | rfl <;> revert h <;> decide
/-- the bytes of an end's version -/
def vE (e : En) : List UInt8 := e.ver.data.toList
def OkE (e : En) : Prop := (e.has = true ∧ vE e ≠ [] ∧ ∀ c ∈ vE e, verB c = true) ∨ (e.has = false ∧ e.ver = .empty ∧ e.cl = false)
theorem empty_of {s : ByteArray} (h : s.size = 0) : s = .empty := by
  have h1 : s.data.toList = [] := List.eq_nil_of_length_eq_zero (by simpa using h)
  apply ByteArray.ext
  apply Array.toList_inj.1
  rw [h1]; rfl
theorem may_chars {s : ByteArray} (h : mayVer s = true) : s.data.toList ≠ [] ∧ ∀ c ∈ s.data.toList, verB c = true := by
  unfold mayVer at h
  simp only [Bool.and_eq_true, decide_eq_true_eq, List.all_eq_true] at h
  refine ⟨fun h0 => ?_, h.2⟩
  have : s.size = 0 := by
    have h2 : s.data.toList.length = s.size := Array.length_toList
    rw [h0] at h2
    simpa using h2.symm
  omega
theorem okE_of {e : En} (h : mayEndB e = true) : OkE e := by
  unfold mayEndB at h
  cases hh : e.has
  · rw [hh] at h
    simp only [Bool.false_eq_true, if_false, Bool.and_eq_true, decide_eq_true_eq, Bool.not_eq_true'] at h
    exact .inr ⟨hh, empty_of h.1, h.2⟩
  · rw [hh, if_pos rfl] at h
    exact .inl ⟨hh, may_chars h⟩
theorem vE_nb {e : En} (h : OkE e) : NB (vE e) := fun c hc => by
  rcases h with ⟨_, _, h⟩ | ⟨_, h, _⟩
  · exact ver_nb (h c hc)
  · unfold vE at hc
    rw [h] at hc
    exact absurd hc (show ¬ c ∈ ([] : List UInt8) by simp)
theorem take_while_stop {p : UInt8 → Bool} : ∀ {u : List UInt8} {c : UInt8} {l : List UInt8}, (∀ d ∈ u, p d = true) → p c = false → (u ++ c :: l).takeWhile p = u
  | [], c, l, _, h => by simp [List.takeWhile_cons, h]
  | d :: u, c, l, hu, h => by
    simp only [List.cons_append, List.takeWhile_cons, hu d (by simp), if_true]
    rw [take_while_stop (fun x hx => hu x (by simp [hx])) h]
theorem end_pr {e : En} (h : OkE e) {c : UInt8} {l : List UInt8} (hc : verB c = false) (hn : NB (c :: l)) (closed : Bool) : endM (str (vE e ++ c :: l)) closed = (⟨e.has, e.ver, e.has && closed⟩, str (c :: l)) := by
  unfold endM spanV
  rw [str_data]
  rcases h with ⟨h1, h2, h3⟩ | ⟨h1, h2, h3⟩
  · rw [take_while_stop h3 hc]
    have hl : (vE e).length ≠ 0 := fun h => h2 (List.eq_nil_of_length_eq_zero h)
    rw [if_neg hl, take_str, drop_str]
    rw [List.take_left' rfl, List.drop_left' rfl, trim_nb hn, h1]
    unfold vE
    rw [str_of]
    rfl
  · have hv : vE e = [] := by unfold vE; rw [h2]; rfl
    rw [hv]
    simp only [List.nil_append, List.takeWhile_cons, hc, Bool.false_eq_true, if_false, List.length_nil, if_true]
    rw [h1, h2]
    rfl
def enEq (e f : En) : Bool := (e.has == f.has) && ((e.ver.toList == f.ver.toList) && (e.cl == f.cl))
theorem tl_eq5 {a b : ByteArray} (h : a.toList = b.toList) : a = b := by
  rw [ByteArray.toList_eq, ByteArray.toList_eq] at h
  exact ByteArray.ext (Array.toList_inj.1 h)
theorem enEq_eq {e f : En} (h : enEq e f = true) : e = f := by
  unfold enEq at h
  simp only [Bool.and_eq_true, beq_iff_eq] at h
  obtain ⟨a, b, c⟩ := e
  obtain ⟨a', b', c'⟩ := f
  simp only at h
  rw [h.1, tl_eq5 h.2.1, h.2.2]
def oneI (p : Iv) : Bool := p.lo.has && (p.lo.cl && enEq p.lo p.hi)
/-- an interval as it is printed -/
def prL (p : Iv) : List UInt8 :=
  if oneI p then 91 :: (vE p.lo ++ [93]) else (if p.lo.cl then 91 else 40) :: (vE p.lo ++ 44 :: (vE p.hi ++ [if p.hi.cl then 93 else 41]))
def prs : List Iv → List UInt8
  | [] => []
  | p :: r => 44 :: (prL p ++ prs r)
theorem one_nb {c : UInt8} (h : blankN c.toNat = false) : NB [c] := fun d hd => by simp at hd; subst hd; exact h
theorem prL_nb {p : Iv} (h1 : OkE p.lo) (h2 : OkE p.hi) : NB (prL p) := by
  unfold prL
  split
  · exact NB.app (l := [91]) (one_nb rfl) ((vE_nb h1).app (one_nb rfl))
  · refine NB.app (l := [_]) (one_nb (by split <;> rfl)) ((vE_nb h1).app (NB.app (l := [44]) (one_nb rfl) ((vE_nb h2).app (one_nb (by split <;> rfl)))))
theorem prs_nb : ∀ {l : List Iv}, (∀ p ∈ l, OkE p.lo ∧ OkE p.hi) → NB (prs l)
  | [], _ => fun c hc => by simp [prs] at hc
  | p :: r, h => NB.app (l := [44]) (one_nb rfl) ((prL_nb (h p (by simp)).1 (h p (by simp)).2).app (prs_nb fun q hq => h q (by simp [hq])))
theorem iv_pr {p : Iv} (h1 : OkE p.lo) (h2 : OkE p.hi) {rest : List UInt8} (hn : NB rest) : ivM (str (prL p ++ rest)) = some (p, str rest) := by
  unfold prL
  split
  · rename_i ho
    unfold oneI at ho
    simp only [Bool.and_eq_true] at ho
    obtain ⟨o1, o2, o3⟩ := ho
    have he := enEq_eq o3
    have n2 : NB (93 :: rest) := NB.app (l := [93]) (one_nb rfl) hn
    have n1 : NB (vE p.lo ++ 93 :: rest) := (vE_nb h1).app n2
    rw [show (91 :: (vE p.lo ++ [93]) ++ rest : List UInt8) = 91 :: (vE p.lo ++ 93 :: rest) by simp]
    unfold ivM
    have e91 : nextS (str (91 :: (vE p.lo ++ 93 :: rest))) = 91 := next_str _ _
    rw [if_pos (.inl e91)]
    simp only [e91]
    rw [drop_nb n1, end_pr h1 (by decide) n2]
    have e93 : nextS (str (93 :: rest)) = 93 := next_str _ _
    simp only [e93]
    rw [if_neg (by decide), drop_nb hn]
    have hlo : (⟨p.lo.has, p.lo.ver, p.lo.has && decide True⟩ : En) = p.lo := by
      obtain ⟨⟨a, b, c⟩, q⟩ := p
      simp only at o1 o2 ⊢
      subst o1; subst o2
      rfl
    rw [hlo, o1]
    obtain ⟨lo, hi⟩ := p
    simp only at he ⊢
    subst he
    rfl
  · have nb2 : NB ((if p.hi.cl then 93 else 41) :: rest) := NB.app (l := [_]) (one_nb (by split <;> rfl)) hn
    have nb3 : NB (vE p.hi ++ (if p.hi.cl then 93 else 41) :: rest) := (vE_nb h2).app nb2
    have nb4 : NB (44 :: (vE p.hi ++ (if p.hi.cl then 93 else 41) :: rest)) := NB.app (l := [44]) (one_nb rfl) nb3
    have nb5 : NB (vE p.lo ++ 44 :: (vE p.hi ++ (if p.hi.cl then 93 else 41) :: rest)) := (vE_nb h1).app nb4
    rw [show ((if p.lo.cl then 91 else 40) :: (vE p.lo ++ 44 :: (vE p.hi ++ [if p.hi.cl then 93 else 41])) ++ rest : List UInt8) = (if p.lo.cl then 91 else 40) :: (vE p.lo ++ 44 :: (vE p.hi ++ (if p.hi.cl then 93 else 41) :: rest)) by simp]
    have e1 : nextS (str ((if p.lo.cl then 91 else 40) :: (vE p.lo ++ 44 :: (vE p.hi ++ (if p.hi.cl then 93 else 41) :: rest)))) = if p.lo.cl then 91 else 40 := by
      rw [next_str]; split <;> rfl
    unfold ivM
    rw [if_pos (by rw [e1]; split <;> simp)]
    simp only [e1]
    rw [drop_nb nb5, end_pr h1 (by decide) nb4]
    have e44 : nextS (str (44 :: (vE p.hi ++ (if p.hi.cl then 93 else 41) :: rest))) = 44 := next_str _ _
    simp only [e44]
    rw [if_pos trivial, drop_nb nb3, end_pr h2 (by split <;> decide) nb2]
    have eb : nextS (str ((if p.hi.cl then 93 else 41) :: rest)) = if p.hi.cl then 93 else 41 := by
      rw [next_str]; split <;> rfl
    simp only [eb]
    rw [if_pos (by split <;> simp), drop_nb hn]
    have hlo : (⟨p.lo.has, p.lo.ver, p.lo.has && decide ((if p.lo.cl = true then (91 : Int) else 40) = 91)⟩ : En) = p.lo := by
      rcases h1 with ⟨a, _⟩ | ⟨a, _, b⟩
      · rw [a]
        obtain ⟨⟨x, y, z⟩, q⟩ := p
        simp only at a ⊢
        subst a
        cases z <;> rfl
      · rw [a]
        obtain ⟨⟨x, y, z⟩, q⟩ := p
        simp only at a b ⊢
        subst a; subst b
        rfl
    have hhi : (⟨p.hi.has, p.hi.ver, p.hi.has && decide ((if p.hi.cl = true then (93 : Int) else 41) = 93)⟩ : En) = p.hi := by
      rcases h2 with ⟨a, _⟩ | ⟨a, _, b⟩
      · rw [a]
        obtain ⟨q, ⟨x, y, z⟩⟩ := p
        simp only at a ⊢
        subst a
        cases z <;> rfl
      · rw [a]
        obtain ⟨q, ⟨x, y, z⟩⟩ := p
        simp only at a b ⊢
        subst a; subst b
        rfl
    rw [hlo, hhi]
theorem ivs_pr : ∀ {l : List Iv}, (∀ p ∈ l, OkE p.lo ∧ OkE p.hi) → ∀ n, l.length < n → ivsM n (str (prs l)) = some l
  | [], _, n + 1, _ => by
    unfold ivsM
    rw [if_pos (by rw [str_size]; rfl)]
  | p :: r, h, n + 1, hn => by
    have hp := h p (by simp)
    have hr := prs_nb (l := r) fun q hq => h q (by simp [hq])
    unfold ivsM
    rw [if_neg (by rw [str_size]; simp [prs]), if_pos (show nextS (str (prs (p :: r))) = 44 from next_str _ _)]
    rw [show dropS (str (prs (p :: r))) = str (prL p ++ prs r) from drop_nb ((prL_nb hp.1 hp.2).app hr), iv_pr hp.1 hp.2 hr]
    simp only
    rw [ivs_pr (fun q hq => h q (by simp [hq])) n (by simpa using hn)]
    rfl
theorem prs_len : ∀ l : List Iv, l.length ≤ (prs l).length
  | [] => Nat.le_refl _
  | p :: r => by
    have := prs_len r
    simp [prs]; omega
theorem all_pr {p : Iv} {r : List Iv} (h : ∀ q ∈ p :: r, OkE q.lo ∧ OkE q.hi) : ivAll (str (prL p ++ prs r)) = some (p :: r) := by
  have hp := h p (by simp)
  have hr := prs_nb (l := r) fun q hq => h q (by simp [hq])
  unfold ivAll
  rw [iv_pr hp.1 hp.2 hr]
  simp only
  rw [ivs_pr (fun q hq => h q (by simp [hq])) _ (by rw [str_size, List.length_append]; have := prs_len r; omega)]
  rfl
theorem okRow_ok : ∀ {l : List Iv}, okRow l = true → ∀ p ∈ l, OkE p.lo ∧ OkE p.hi
  | [], _, p, hp => by simp at hp
  | [q], h, p, hp => by
    simp at hp; subst hp
    simp only [okRow] at h
    unfold okI at h
    simp only [Bool.and_eq_true] at h
    exact ⟨okE_of h.1.1, okE_of h.1.2⟩
  | q :: q' :: r, h, p, hp => by
    simp only [okRow, Bool.and_eq_true] at h
    rcases List.mem_cons.1 hp with rfl | hp
    · have h1 := h.1.1
      unfold okI at h1
      simp only [Bool.and_eq_true] at h1
      exact ⟨okE_of h1.1.1, okE_of h1.1.2⟩
    · exact okRow_ok h.2 p hp
/-- a range as it is printed -/
def prR (hard : Bool) (ver : ByteArray) (l : List Iv) : List UInt8 :=
  if hard then (match l with | [] => [] | p :: r => prL p ++ prs r) else ver.data.toList
theorem prR_ok {hard : Bool} {ver : ByteArray} {l : List Iv} (h : mayB hard ver l = true) : NB (prR hard ver l) ∧ prR hard ver l ≠ [] := by
  unfold mayB at h
  unfold prR
  cases hard
  · simp only [Bool.false_eq_true, if_false, Bool.and_eq_true] at h ⊢
    have := may_chars h.1
    exact ⟨fun c hc => ver_nb (this.2 c hc), this.1⟩
  · simp only [if_true, Bool.and_eq_true, decide_eq_true_eq] at h ⊢
    cases l with
    | nil => simp at h
    | cons p r =>
      have ho := okRow_ok h.2
      refine ⟨(prL_nb (ho p (by simp)).1 (ho p (by simp)).2).app (prs_nb fun q hq => ho q (by simp [hq])), fun hc => ?_⟩
      have : prL p = [] := (List.append_eq_nil_iff.1 hc).1
      unfold prL at this
      split at this <;> cases this
theorem parse_pr {hard : Bool} {ver : ByteArray} {l : List Iv} (h : mayB hard ver l = true) {s : ByteArray} (hs : trimS s = str (prR hard ver l)) : parseM s = some (hard, ver, l) := by
  have h' := h
  unfold mayB at h
  unfold parseM
  rw [hs]
  unfold prR
  cases hard
  · simp only [Bool.false_eq_true, if_false, Bool.and_eq_true, decide_eq_true_eq] at h ⊢
    obtain rfl := List.length_eq_zero_iff.1 h.2
    have hc := may_chars h.1
    rw [str_of]
    have hne : ¬ (nextS ver = 91 ∨ nextS ver = 40) := by
      unfold nextS
      cases hv : ver.data.toList with
      | nil => exact absurd hv hc.1
      | cons c r =>
        have hvc := hc.2 c (by rw [hv]; simp)
        simp only [List.headD_cons]
        intro hh
        have : c = 91 ∨ c = 40 := by
          rcases hh with hh | hh
          · left; exact UInt8.toNat_inj.1 (by simpa using Int.ofNat.inj hh)
          · right; exact UInt8.toNat_inj.1 (by simpa using Int.ofNat.inj hh)
        rcases this with rfl | rfl <;> revert hvc <;> decide
    rw [if_neg hne, if_pos h']
  · simp only [if_true, Bool.and_eq_true, decide_eq_true_eq] at h ⊢
    obtain rfl := empty_of h.1.1.1
    cases l with
    | nil => simp at h
    | cons p r =>
      have ho := okRow_ok h.2
      have hn : nextS (str (prL p ++ prs r)) = 91 ∨ nextS (str (prL p ++ prs r)) = 40 := by
        unfold prL
        split
        · exact .inl (next_str _ _)
        · rw [List.cons_append, next_str]
          split
          · exact .inl rfl
          · exact .inr rfl
      simp only
      rw [if_pos hn, all_pr ho]
      simp only
      rw [if_pos h']
end Go.Proofs.YtnghagikchffiaaDoor
