/-
  Layer 24, plain: what a lock is printed as is read as that lock; nothing shorter is one, and nothing longer. Own work.
-/
import Derived.Test.YtcmojpfolmcaoaaDoorLk24
namespace Go.Proofs.YtcmojpfolmcaoaaDoor
set_option linter.unusedVariables false
set_option linter.unusedSimpArgs false
open Go.RowKit

/-- no line end and no blank -/
def NBL (l : List UInt8) : Prop := ∀ c ∈ l, c ≠ 10 ∧ c ≠ 32
theorem NBL.app {a b : List UInt8} (ha : NBL a) (hb : NBL b) : NBL (a ++ b) := fun c hc => by
  rcases List.mem_append.1 hc with h | h
  · exact ha c h
  · exact hb c h
theorem NBL.cons {a : UInt8} {b : List UInt8} (ha : a ≠ 10 ∧ a ≠ 32) (hb : NBL b) : NBL (a :: b) := fun c hc => by
  rcases List.mem_cons.1 hc with rfl | h
  · exact ha
  · exact hb c h
theorem idB_10 : idB 10 = false := by decide +kernel
theorem idB_32 : idB 32 = false := by decide +kernel
theorem verB_10 : verB 10 = false := by decide +kernel
theorem verB_32 : verB 32 = false := by decide +kernel
theorem isId_nbl {s : ByteArray} (h : isId s = true) : NBL s.data.toList := by
  unfold isId at h
  simp only [Bool.and_eq_true] at h
  intro c hc
  have hb := List.all_eq_true.1 h.2 _ hc
  refine ⟨fun e => ?_, fun e => ?_⟩
  · subst e; rw [idB_10] at hb; cases hb
  · subst e; rw [idB_32] at hb; cases hb
theorem mayVer_nbl {s : ByteArray} (h : mayVer s = true) : NBL s.data.toList := by
  unfold mayVer at h
  simp only [Bool.and_eq_true] at h
  intro c hc
  have hb := List.all_eq_true.1 h.2 _ hc
  refine ⟨fun e => ?_, fun e => ?_⟩
  · subst e; rw [verB_10] at hb; cases hb
  · subst e; rw [verB_32] at hb; cases hb
theorem printKey_data (g a t c : ByteArray) : (printKey g a t c).data.toList = (if c.size = 0 then g.data.toList ++ 58 :: (a.data.toList ++ 58 :: t.data.toList) else g.data.toList ++ 58 :: (a.data.toList ++ 58 :: (t.data.toList ++ 58 :: c.data.toList))) := by
  unfold printKey
  split <;> simp [ByteArray.data_append]
theorem printGav_data (g a v : ByteArray) : (printGav g a v).data.toList = g.data.toList ++ 58 :: (a.data.toList ++ 58 :: v.data.toList) := by
  unfold printGav
  simp [ByteArray.data_append]
theorem key_nbl {g a t c : ByteArray} (h : mayKey g a t c = true) : NBL (printKey g a t c).data.toList := by
  unfold mayKey at h
  simp only [Bool.and_eq_true, Bool.or_eq_true, decide_eq_true_eq] at h
  obtain ⟨⟨⟨h1, h2⟩, h3⟩, h4⟩ := h
  rw [printKey_data]
  split
  · exact (isId_nbl h1).app (NBL.cons (by decide) ((isId_nbl h2).app (NBL.cons (by decide) (isId_nbl h3))))
  · rename_i hc
    have h5 : isId c = true := by rcases h4 with h | h; exact absurd h hc; exact h
    exact (isId_nbl h1).app (NBL.cons (by decide) ((isId_nbl h2).app (NBL.cons (by decide) ((isId_nbl h3).app (NBL.cons (by decide) (isId_nbl h5))))))
theorem gav_nbl {g a v : ByteArray} (h : mayGav g a v = true) : NBL (printGav g a v).data.toList := by
  unfold mayGav at h
  simp only [Bool.and_eq_true] at h
  rw [printGav_data]
  exact (isId_nbl h.1.1).app (NBL.cons (by decide) ((isId_nbl h.1.2).app (NBL.cons (by decide) (mayVer_nbl h.2))))
theorem word_nbl {a : Int} (h : 1 ≤ a ∧ a ≤ 5) : NBL (wordS a).data.toList := by
  have h6 : a = 1 ∨ a = 2 ∨ a = 3 ∨ a = 4 ∨ a = 5 := by omega
  rcases h6 with rfl | rfl | rfl | rfl | rfl
  all_goals
    intro c hc
    simp [wordS] at hc
    rcases hc with rfl | rfl | rfl | rfl | rfl | rfl | rfl | rfl <;> decide
theorem digit_nbl : ∀ d : Fin 10, UInt8.ofNat (48 + d.val) ≠ 10 ∧ UInt8.ofNat (48 + d.val) ≠ 32 := by decide +kernel
theorem dec_nbl (n : Nat) : NBL (Lib.decDigits n) := by
  induction n using Nat.strongRecOn with
  | _ n ih =>
    rw [Lib.decDigits]
    split
    · rename_i h
      exact NBL.cons (digit_nbl ⟨n, h⟩) (fun c hc => by cases hc)
    · rename_i h
      exact (ih (n / 10) (by omega)).app (NBL.cons (digit_nbl ⟨n % 10, by omega⟩) (fun c hc => by cases hc))
theorem itoa_nbl (n : Nat) : NBL (Lib.itoa (n : Int)) := by
  unfold Lib.itoa
  rw [if_neg (by omega)]
  exact dec_nbl _
theorem NBL.n10 {l : List UInt8} (h : NBL l) : ∀ c ∈ l, c ≠ 10 := fun c hc => (h c hc).1
theorem NBL.n32 {l : List UInt8} (h : NBL l) : ∀ c ∈ l, c ≠ 32 := fun c hc => (h c hc).2
theorem wPin_nbl : NBL wPin := by unfold NBL wPin; decide
theorem wRoot_nbl : NBL wRoot := by unfold NBL wRoot; decide
def wEnd : List UInt8 := [101, 110, 100]
theorem wEnd_nbl : NBL wEnd := by unfold NBL wEnd; decide
theorem endLine_eq (n : Nat) : endLine n = wEnd ++ 32 :: Lib.itoa n := rfl
theorem mayP_parts {p : Pn} (h : mayP p = true) : mayKey p.g p.a p.t p.c = true ∧ mayVer p.v = true ∧ 1 ≤ p.sc ∧ p.sc ≤ 5 := by
  unfold mayP at h
  simp only [Bool.and_eq_true, decide_eq_true_eq] at h
  exact ⟨h.1.1.1, h.1.1.2, h.1.2, h.2⟩
theorem pin_words {p : Pn} (h : mayP p = true) : pcd 32 (pinLine p) = [wPin, (printKey p.g p.a p.t p.c).data.toList, p.v.data.toList, (wordS p.sc).data.toList] := by
  obtain ⟨h1, h2, h3, h4⟩ := mayP_parts h
  unfold pinLine
  rw [pcd_app _ _ wPin_nbl.n32, pcd_app _ _ (key_nbl h1).n32, pcd_app _ _ (mayVer_nbl h2).n32, pcd_plain _ (word_nbl ⟨h3, h4⟩).n32]
theorem root_words {g a v : ByteArray} (h : mayGav g a v = true) : pcd 32 (rootLine g a v) = [wRoot, (printGav g a v).data.toList] := by
  unfold rootLine
  rw [pcd_app _ _ wRoot_nbl.n32, pcd_plain _ (gav_nbl h).n32]
theorem end_words (n : Nat) : pcd 32 (endLine n) = [wEnd, Lib.itoa n] := by
  rw [endLine_eq, pcd_app _ _ wEnd_nbl.n32, pcd_plain _ (itoa_nbl n).n32]
theorem app_n10 {a b : List UInt8} (ha : ∀ c ∈ a, c ≠ (10 : UInt8)) (hb : ∀ c ∈ b, c ≠ (10 : UInt8)) : ∀ c ∈ a ++ 32 :: b, c ≠ 10 := fun c hc => by
  rcases List.mem_append.1 hc with h | h
  · exact ha c h
  · rcases List.mem_cons.1 h with rfl | h
    · decide
    · exact hb c h
theorem pin_n10 {p : Pn} (h : mayP p = true) : ∀ c ∈ pinLine p, c ≠ (10 : UInt8) := by
  obtain ⟨h1, h2, h3, h4⟩ := mayP_parts h
  exact app_n10 wPin_nbl.n10 (app_n10 (key_nbl h1).n10 (app_n10 (mayVer_nbl h2).n10 (word_nbl ⟨h3, h4⟩).n10))
theorem root_n10 {g a v : ByteArray} (h : mayGav g a v = true) : ∀ c ∈ rootLine g a v, c ≠ (10 : UInt8) := app_n10 wRoot_nbl.n10 (gav_nbl h).n10
theorem end_n10 (n : Nat) : ∀ c ∈ endLine n, c ≠ (10 : UInt8) := app_n10 wEnd_nbl.n10 (itoa_nbl n).n10
theorem take_first (st : St) : takeM 1 wFirst st = some st := by unfold takeM; rw [if_pos rfl, if_pos rfl]
theorem take_root {g a v : ByteArray} {st : St} (h : mayGav g a v = true) (he : st.ended = false) : takeM 2 (rootLine g a v) st = some ⟨g, a, v, st.pins, false⟩ := by
  unfold takeM
  rw [if_neg (by decide), if_neg (by rw [he]; simp), if_pos rfl, root_words h]
  unfold rootM
  simp only [if_pos, gav_back g a v h, he]
theorem take_pin {p : Pn} {st : St} {n : Nat} (hn : 3 ≤ n) (h : mayP p = true) (he : st.ended = false) (hl : st.pins.length < 4096) (hm : mayAt (st.pins ++ [p]) st.pins.length = true) : takeM n (pinLine p) st = some ⟨st.rg, st.ra, st.rv, st.pins ++ [p], false⟩ := by
  obtain ⟨h1, h2, h3, h4⟩ := mayP_parts h
  unfold takeM
  rw [if_neg (by omega), if_neg (by rw [he]; simp), if_neg (by omega), pin_words h]
  simp only [List.head?_cons, if_true]
  have hs : scopeI (wordS p.sc) = p.sc := by
    rw [scope_word, if_pos (by omega)]
  unfold pinM
  simp only [key_back p.g p.a p.t p.c h1, str_toList, hs]
  rw [if_neg (by omega), if_neg (by omega), if_pos hm, he]
theorem take_end {st : St} {n : Nat} (hn : 3 ≤ n) (he : st.ended = false) : takeM n (endLine st.pins.length) st = some ⟨st.rg, st.ra, st.rv, st.pins, true⟩ := by
  unfold takeM
  rw [if_neg (by omega), if_neg (by rw [he]; simp), if_neg (by omega), end_words, if_neg (by simp [wEnd, wPin]), if_pos rfl]
theorem go_pins : ∀ (m : List Pn) (n : Nat) (st : St), 3 ≤ n → st.ended = false → allMay (st.pins ++ m) = true → (st.pins ++ m).length ≤ 4096 →
    goM n (m.map pinLine ++ [endLine (st.pins ++ m).length, []]) st = .inr ⟨st.rg, st.ra, st.rv, st.pins ++ m, true⟩
  | [], n, st, hn, he, hm, hl => by
    rw [List.append_nil]
    show goM n [endLine st.pins.length, []] st = _
    rw [goM, take_end hn he]
    simp only
    rw [goM, if_pos rfl, if_pos rfl]
  | p :: m, n, st, hn, he, hm, hl => by
    have ha := allMay_iff.1 hm st.pins.length (by simp)
    have hx : st.pins ++ p :: m = (st.pins ++ [p]) ++ m := by simp
    have hmp : mayP p = true := by
      unfold mayAt at ha
      rw [List.getElem?_append_right (Nat.le_refl _)] at ha
      simp only [Nat.sub_self, List.getElem?_cons_zero, Bool.and_eq_true] at ha
      exact ha.2
    have hm1 : mayAt (st.pins ++ [p]) st.pins.length = true := by
      rw [hx] at ha
      rwa [mayAt_app _ _ _ (by simp)] at ha
    have ih := go_pins m (n + 1) ⟨st.rg, st.ra, st.rv, st.pins ++ [p], false⟩ (by omega) rfl (by rw [← hx]; exact hm) (by rw [← hx]; exact hl)
    obtain ⟨y, r, hy⟩ : ∃ y r, m.map pinLine ++ [endLine (st.pins ++ p :: m).length, []] = y :: r := by
      cases m with
      | nil => exact ⟨_, _, rfl⟩
      | cons a b => exact ⟨_, _, rfl⟩
    rw [List.map_cons, List.cons_append, hy, goM, take_pin hn hmp he (by simp at hl; omega) hm1]
    simp only
    rw [← hy, hx]
    exact ih
theorem lines_pins : ∀ (l : List Pn) (r : List UInt8), (∀ p ∈ l, mayP p = true) → pcd 10 (pinLines l ++ r) = l.map pinLine ++ pcd 10 r
  | [], r, _ => rfl
  | p :: l, r, h => by
    have ih := lines_pins l r (fun q hq => h q (by simp [hq]))
    show pcd 10 ((pinLine p ++ [10]) ++ pinLines l ++ r) = _
    rw [List.append_assoc, List.append_assoc, List.singleton_append, pcd_app _ _ (pin_n10 (h p (by simp))), ih]
    rfl
/-- any lock that may be, printed, is read as that lock -/
theorem print_parse {g a v : ByteArray} {l : List Pn} (h : mayLock g a v l = true) : parseL (printL g a v l) = .inr ⟨g, a, v, l, true⟩ := by
  unfold mayLock at h
  simp only [Bool.and_eq_true, decide_eq_true_eq] at h
  obtain ⟨⟨hg, hl⟩, hm⟩ := h
  have hp : ∀ p ∈ l, mayP p = true := fun p hp => by
    obtain ⟨i, hi, hpi⟩ := List.getElem_of_mem hp
    have ha := allMay_iff.1 hm i hi
    unfold mayAt at ha
    rw [List.getElem?_eq_getElem hi, hpi] at ha
    simp only [Bool.and_eq_true] at ha
    exact ha.2
  have e : printL g a v l = wFirst ++ 10 :: (rootLine g a v ++ 10 :: (pinLines l ++ (endLine l.length ++ 10 :: []))) := by simp [printL]
  unfold parseL
  rw [e, pcd_app _ _ (by unfold wFirst; decide), pcd_app _ _ (root_n10 hg), lines_pins l _ hp, pcd_app _ _ (end_n10 _)]
  have e2 : pcd 10 ([] : List UInt8) = [[]] := rfl
  rw [e2, goM, take_first]
  simp only
  have hgp := go_pins l 3 ⟨g, a, v, [], false⟩ (by omega) rfl (by simpa using hm) (by simpa using hl)
  simp only [List.nil_append] at hgp
  obtain ⟨y, r, hy⟩ : ∃ y r, l.map pinLine ++ [endLine l.length, []] = y :: r := by
    cases l with
    | nil => exact ⟨_, _, rfl⟩
    | cons a b => exact ⟨_, _, rfl⟩
  rw [hy, goM, take_root hg rfl]
  simp only
  rw [← hy]
  exact hgp
theorem go_longer : ∀ (q : List (List UInt8)) (last : List UInt8) (n : Nat) (st st' : St), 1 ≤ n → (n = 1 → st.ended = false) → goM n (q ++ [last]) st = .inr st' →
    last = [] ∧ ∀ x xs, x ≠ [] ∨ xs ≠ [] → ∃ k, goM n (q ++ (x :: xs)) st = .inl k
  | [], last, n, st, st', h1n, hn, h => by
    rw [List.nil_append, goM] at h
    split at h
    · rename_i hl
      split at h
      · rename_i he
        refine ⟨hl, fun x xs hx => ?_⟩
        have ht : ∀ t, takeM n t st = none := fun t => by
          unfold takeM
          rw [if_neg (fun e => by rw [hn e] at he; cases he), if_pos he]
        cases xs with
        | nil =>
          have hx0 : x ≠ [] := by rcases hx with h | h; exact h; exact absurd rfl h
          refine ⟨n, ?_⟩
          rw [List.nil_append, goM, if_neg hx0, ht]
        | cons y r =>
          refine ⟨n, ?_⟩
          rw [List.nil_append, goM, ht]
      · cases h
    · split at h <;> cases h
  | a :: q, last, n, st, st', h1n, hn, h => by
    obtain ⟨y, r, hy⟩ : ∃ y r, q ++ [last] = y :: r := by
      cases q with
      | nil => exact ⟨_, _, rfl⟩
      | cons u w => exact ⟨_, _, rfl⟩
    rw [List.cons_append, hy, goM] at h
    split at h
    · cases h
    · rename_i st1 ht
      rw [← hy] at h
      obtain ⟨h1, h2⟩ := go_longer q last (n + 1) st1 st' (by omega) (fun e => by omega) h
      refine ⟨h1, fun x xs hx => ?_⟩
      obtain ⟨k, hk⟩ := h2 x xs hx
      obtain ⟨y', r', hy'⟩ : ∃ y r, q ++ (x :: xs) = y :: r := by
        cases q with
        | nil => exact ⟨_, _, rfl⟩
        | cons u w => exact ⟨_, _, rfl⟩
      refine ⟨k, ?_⟩
      rw [List.cons_append, hy', goM, ht]
      simp only
      rw [← hy']
      exact hk
theorem pcd_longer {d : UInt8} : ∀ (p r : List UInt8), ∃ q last x xs, pcd d p = q ++ [last] ∧ pcd d r = x :: xs ∧ pcd d (p ++ r) = q ++ ((last ++ x) :: xs)
  | [], r => by
    obtain ⟨x, xs, hx⟩ : ∃ x xs, pcd d r = x :: xs := by
      cases h : pcd d r with
      | nil => exact absurd h (pcd_ne r)
      | cons x xs => exact ⟨x, xs, rfl⟩
    exact ⟨[], [], x, xs, rfl, hx, by simpa using hx⟩
  | c :: p, r => by
    obtain ⟨q, last, x, xs, h1, h2, h3⟩ := pcd_longer (d := d) p r
    rw [List.cons_append]
    by_cases hc : c = d
    · rw [hc]
      exact ⟨[] :: q, last, x, xs, by rw [pcd_colon, h1]; rfl, h2, by rw [pcd_colon, h3]; rfl⟩
    · cases q with
      | nil => exact ⟨[], c :: last, x, xs, by rw [pcd_other c p hc last [] h1]; rfl, h2, by rw [pcd_other c _ hc (last ++ x) xs h3]; rfl⟩
      | cons y q => exact ⟨(c :: y) :: q, last, x, xs, by rw [pcd_other c p hc y (q ++ [last]) h1]; rfl, h2, by rw [pcd_other c _ hc y (q ++ ((last ++ x) :: xs)) h3]; rfl⟩
/-- nothing longer is read -/
theorem parse_longer {p r : List UInt8} {st : St} (h : parseL p = .inr st) (hr : r ≠ []) : ∃ k, parseL (p ++ r) = .inl k := by
  obtain ⟨q, last, x, xs, h1, h2, h3⟩ := pcd_longer (d := 10) p r
  unfold parseL at h ⊢
  rw [h1] at h
  obtain ⟨e, hl⟩ := go_longer q last 1 st0 st (Nat.le_refl _) (fun _ => rfl) h
  subst e
  rw [h3]
  refine hl ([] ++ x) xs ?_
  by_cases hx : x = []
  · right
    intro hxs
    subst hx; subst hxs
    have := joinD_pcd (d := 10) r
    rw [h2] at this
    exact hr this.symm
  · left; simpa using hx
/-- nothing shorter is read -/
theorem parse_shorter {p r : List UInt8} {st : St} (h : parseL (p ++ r) = .inr st) (hr : r ≠ []) : ∃ k, parseL p = .inl k := by
  cases hp : parseL p with
  | inl k => exact ⟨k, rfl⟩
  | inr st' =>
    obtain ⟨k, hk⟩ := parse_longer hp hr
    rw [hk] at h; cases h
end Go.Proofs.YtcmojpfolmcaoaaDoor
