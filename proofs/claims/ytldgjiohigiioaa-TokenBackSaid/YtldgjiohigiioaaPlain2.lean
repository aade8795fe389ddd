/-
  Layer 2: escaped letters are read as they were, and letters in CDATA, on lists. Own work.
-/
import Derived.Test.YtldgjiohigiioaaRise2
import Derived.Test.YtldgjiohigiioaaEscR
namespace Go.Proofs.Ytldgjiohigiioaa
set_option linter.unusedVariables false
set_option linter.unusedSimpArgs false
open Go.RowKit

/-- e c is read as c, before stop -/
def OkE (stop : UInt8) (e : UInt8 → List UInt8) (c : UInt8) : Prop :=
  (e c = [c] ∧ c ≠ stop ∧ c ≠ 38 ∧ c ≠ 60 ∧ tx c = true) ∨ ∃ x, e c = 38 :: x ∧ ∀ r, refS (e c ++ r) = (⟨#[c]⟩, (e c).length, 0)
theorem let_map {stop : UInt8} {opn : Bool} {e : UInt8 → List UInt8} (hst : stop ≠ 38) : ∀ (s : List UInt8) (f : Nat) (acc tail : List UInt8), s.length ≤ f → (∀ c ∈ s, OkE stop e c) →
    letM stop opn f acc (s.flatMap e ++ tail) = letM stop opn (f - s.length) (acc ++ s) tail
  | [], f, acc, tail, _, _ => by simp
  | c :: s, 0, acc, tail, h, _ => by simp at h
  | c :: s, f + 1, acc, tail, h, hok => by
    have hf : f + 1 - (c :: s).length = f - s.length := by simp
    have ih := let_map (opn := opn) (e := e) hst s f (acc ++ [c]) tail (by simpa using h) (fun d hd => hok d (List.mem_cons_of_mem _ hd))
    have ea : acc ++ (c :: s) = acc ++ [c] ++ s := by simp
    rw [hf, ea, ← ih, List.flatMap_cons, List.append_assoc]
    rcases hok c List.mem_cons_self with ⟨he, h1, h2, h3, h4⟩ | ⟨x, he, hr⟩
    · rw [he]
      show letM stop opn (f + 1) acc (c :: (s.flatMap e ++ tail)) = _
      rw [letM, if_neg h1, if_neg h2, if_neg (by simp [h3, h4])]
    · have hrr := hr (s.flatMap e ++ tail)
      have hd : (e c ++ (s.flatMap e ++ tail)).drop (e c).length = s.flatMap e ++ tail := by simp
      rw [he] at hrr hd ⊢
      generalize hL : (38 :: x).length = L at hrr hd
      show letM stop opn (f + 1) acc (38 :: (x ++ (s.flatMap e ++ tail))) = _
      change refS (38 :: (x ++ (s.flatMap e ++ tail))) = _ at hrr
      change (38 :: (x ++ (s.flatMap e ++ tail))).drop L = _ at hd
      rw [letM, if_neg (Ne.symm hst), if_pos rfl]
      simp only [hrr, hd]
/-- what Escape writes for a text -/
theorem okE_esc {c : UInt8} (h : tx c = true) : OkE 60 (esc1 false) c := by
  cases hok : escOk false c with
  | true =>
    have h0 := esc1_head false c hok
    cases he : esc1 false c with
    | nil => rw [he] at h0; simp at h0
    | cons d x =>
      rw [he] at h0
      obtain rfl : d = 38 := by simpa using h0
      exact .inr ⟨x, he, fun r => refS_esc false c r hok⟩
  | false =>
    refine .inl ⟨esc1_no hok, ?_, ?_, ?_, h⟩ <;> (rintro rfl; simp [escOk] at hok)
theorem let_esc (s : List UInt8) (f : Nat) (hf : s.length < f) (h : ∀ c ∈ s, tx c = true) : letM 60 true f [] (escS false s) = .ok s [] := by
  have := let_map (stop := 60) (opn := true) (e := esc1 false) (by decide) s f [] [] (by omega) (fun c hc => okE_esc (h c hc))
  rw [List.append_nil] at this
  unfold escS
  rw [this]
  obtain ⟨g, hg⟩ : ∃ g, f - s.length = g + 1 := ⟨f - s.length - 1, by omega⟩
  rw [hg, letM]
  simp
/-- letters up to the end of a CDATA -/
theorem bet_cd : ∀ (s acc : List UInt8), (∀ c ∈ s, tx c = true) → (∀ i, (s.drop i).take 3 ≠ cdB) → s.getLast? ≠ some 93 → betM cdB acc (s ++ cdB) = .ok (acc ++ s) []
  | [], acc, _, _, _ => by
    show betM cdB acc [93, 93, 62] = _
    unfold betM
    rw [if_pos (by decide)]
    simp [cdB]
  | c :: s, acc, ht, hn, hl => by
    have hno : cdB.isPrefixOf (c :: (s ++ cdB)) = false := by
      rw [Bool.eq_false_iff]
      intro h
      match s, hn, hl with
      | [], _, hl => simp [cdB, List.isPrefixOf] at h
      | [d], _, hl => simp [cdB, List.isPrefixOf] at h
      | d :: e :: s, hn, _ =>
        simp [cdB, List.isPrefixOf] at h
        exact hn 0 (by simp [cdB, ← h.1, ← h.2.1, ← h.2.2])
    have ih := bet_cd s (acc ++ [c]) (fun d hd => ht d (List.mem_cons_of_mem _ hd)) (fun i => hn (i + 1)) (by
      intro hq
      apply hl
      cases s with
      | nil => simp at hq
      | cons d s => rw [List.getLast?_cons_cons]; exact hq)
    show betM cdB acc (c :: (s ++ cdB)) = _
    rw [betM, if_neg (by rw [hno]; decide), if_pos (ht c List.mem_cons_self), ih]
    simp
/-- a text of one token -/
theorem all_one {l : List UInt8} {t : Tk} (h0 : l ≠ []) (hl : l.length ≤ 65536) (hp : pieceM 0 l = .ok t []) : allM l = .ok [t] [] := by
  unfold allM
  rw [if_neg (by omega)]
  obtain ⟨m, hm⟩ : ∃ m, l.length = m + 1 := ⟨l.length - 1, by have := List.length_pos_iff.2 h0; omega⟩
  rw [goM, if_neg h0, Nat.sub_self, hp]
  show goM l l.length ([] ++ [t]) [] = _
  rw [hm, goM, if_pos rfl]
  rfl
/-- of two -/
theorem all_two2 {l r : List UInt8} {t u : Tk} (h0 : l ≠ []) (h1 : r ≠ []) (hrl : 2 ≤ l.length) (hl : l.length ≤ 65536) (hp : pieceM 0 l = .ok t r) (hp2 : pieceM (l.length - r.length) r = .ok u []) : allM l = .ok [t, u] [] := by
  unfold allM
  rw [if_neg (by omega)]
  obtain ⟨m, hm⟩ : ∃ m, l.length = m + 2 := ⟨l.length - 2, by omega⟩
  rw [goM, if_neg h0, Nat.sub_self, hp]
  show goM l l.length ([] ++ [t]) r = _
  rw [hm, goM, if_neg h1, hp2]
  show goM l (m + 1) ([] ++ [t] ++ [u]) [] = _
  rw [goM, if_pos rfl]
  rfl
theorem all_cd {s : List UInt8} (hs : s.length ≤ 2000) (ht : ∀ c ∈ s, tx c = true) (hn : ∀ i, (s.drop i).take 3 ≠ cdB) (hl : s.getLast? ≠ some 93) : allM (cdF ++ s ++ cdB) = .ok [⟨4, [], [], s, 0⟩] [] := by
  refine all_one (by simp [cdF]) (by simp [cdF, cdB]; omega) ?_
  have hb := bet_cd s [] ht hn hl
  show pieceM 0 (60 :: 33 :: 91 :: 67 :: 68 :: 65 :: 84 :: 65 :: 91 :: (s ++ cdB)) = _
  rw [pieceM, if_neg (by decide), if_neg (by simp [noteF, List.isPrefixOf]), if_pos (by simp [cdF, List.isPrefixOf])]
  show (betM cdB [] (s ++ cdB)).bind _ = _
  rw [hb]
  rfl
theorem esc_nil {s : List UInt8} : escS false s = [] ↔ s = [] := by
  constructor
  · intro h
    cases s with
    | nil => rfl
    | cons c s =>
      have := esc1_pos false c
      simp [escS] at h
      rw [h.1] at this
      simp at this
  · rintro rfl; rfl
theorem esc_first {c d : UInt8} {s r : List UInt8} (h : escS false (c :: s) = d :: r) : d ≠ 60 := by
  rintro rfl
  have h1 : escS false (c :: s) = esc1 false c ++ escS false s := by simp [escS]
  rw [h1] at h
  cases hok : escOk false c with
  | true =>
    have h0 := esc1_head false c hok
    cases he : esc1 false c with
    | nil => rw [he] at h0; simp at h0
    | cons e x => rw [he] at h0 h; simp at h0 h; exact absurd (h0.symm.trans h.1) (by decide)
  | false =>
    rw [esc1_no hok] at h
    simp at h
    rw [h.1] at hok
    simp [escOk] at hok
theorem piece_a (r : List UInt8) : pieceM 0 (60 :: 97 :: 47 :: 62 :: r) = .ok ⟨2, [97], [], [], 0⟩ r := by
  have hn : nameM 11 (97 :: 47 :: 62 :: r) = .ok [97] (47 :: 62 :: r) := by
    rw [nameM, if_neg (by simp)]
    have : nameL (97 :: 47 :: 62 :: r) = 1 := by kernel_rfl
    rw [this, if_neg (by decide)]
    rfl
  have ha : attrsM ((47 :: 62 :: r).length + 1) [] (47 :: 62 :: r) = .ok [] (47 :: 62 :: r) := by
    rw [attrsM, if_pos (by rw [blanksM, List.dropWhile_cons_of_neg (by decide)])]
  rw [pieceM, if_neg (by decide), if_neg (by simp [noteF, List.isPrefixOf]), if_neg (by simp [cdF, List.isPrefixOf]), if_neg (by simp [headM, headF, List.isPrefixOf]), if_neg (by simp), openM, hn]
  show (((attrsM ((47 :: 62 :: r).length + 1) [] (47 :: 62 :: r)).bind _).bind _) = _
  rw [ha]
  rfl
def escT (s : List UInt8) : List UInt8 := 60 :: 97 :: 47 :: 62 :: escS false s
theorem all_esc {s : List UInt8} (hs : s.length ≤ 2000) (ht : ∀ c ∈ s, tx c = true) : allM (escT s) = .ok (if s = [] then [⟨2, [97], [], [], 0⟩] else [⟨2, [97], [], [], 0⟩, ⟨4, [], [], s, 4⟩]) [] := by
  have hlen := escS_len false s
  unfold escT
  by_cases h : s = []
  · subst h
    rw [if_pos rfl]
    exact all_one (by simp) (by simp [escS]) (piece_a _)
  · rw [if_neg h]
    refine all_two2 (by simp) (fun he => h (esc_nil.1 he)) (by simp) (by simp; omega) (piece_a _) ?_
    have e4 : (60 :: 97 :: 47 :: 62 :: escS false s).length - (escS false s).length = 4 := by simp; omega
    rw [e4]
    cases s with
    | nil => exact absurd rfl h
    | cons c s =>
      have hp := esc1_pos false c
      cases hE : escS false (c :: s) with
      | nil => exact absurd (esc_nil.1 hE) h
      | cons d r =>
        have hd := esc_first hE
        have hl := let_esc (c :: s) ((d :: r).length + 1) (by
          rw [← hE]
          have : ∀ s : List UInt8, s.length ≤ (escS false s).length := by
            intro s
            induction s with
            | nil => simp
            | cons c s ih => have := esc1_pos false c; simp [escS] at ih ⊢; omega
          have := this (c :: s)
          omega) ht
        rw [hE] at hl
        rw [pieceM, if_pos hd, hl]
        rfl
end Go.Proofs.Ytldgjiohigiioaa
