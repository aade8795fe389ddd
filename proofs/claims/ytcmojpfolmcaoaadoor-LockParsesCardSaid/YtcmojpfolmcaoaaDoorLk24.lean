/-
  Layer 24, plain: pins and locks as lists; which may be; what a lock is printed as; what its text is read as, line by line. Own work.
-/
import Derived.Test.YtcmojpfolmcaoaaDoorParsed6
import Derived.Test.YtcmojpfolmcaoaaDoorWord6
import Derived.Test.YtcmojpfolmcaoaaDoorCmp6
import Derived.Test.YtcmojpfolmcaoaaDoorPcsD
import Derived.Lib.ItoaNum
namespace Go.Proofs.YtcmojpfolmcaoaaDoor
set_option linter.unusedVariables false
set_option linter.unusedSimpArgs false
open Go.RowKit

/-- a pin -/
structure Pn where
  g : ByteArray
  a : ByteArray
  t : ByteArray
  c : ByteArray
  v : ByteArray
  sc : Int
deriving Inhabited
def Pn.key (p : Pn) : K4 := ⟨p.g, p.a, p.t, p.c⟩
def pnCells (p : Pn) : List Value := [.string p.g, .string p.a, .string p.t, .string p.c, .string p.v, .int .i64 p.sc]
def pnV (p : Pn) : Value := .agg #[.string p.g, .string p.a, .string p.t, .string p.c, .string p.v, .int .i64 p.sc]
def rowN (l : List Pn) : List Value := l.flatMap pnCells
theorem rowN_snoc (l : List Pn) (p : Pn) : rowN (l ++ [p]) = rowN l ++ pnCells p := by simp [rowN]
theorem rowN_len : ∀ l : List Pn, (rowN l).length = l.length * 6
  | [] => rfl
  | p :: l => by
    have := rowN_len l
    simp only [rowN, List.flatMap_cons, List.length_append, List.length_cons, pnCells, List.length_nil] at this ⊢
    omega
theorem rowN_at : ∀ (l : List Pn) (i c : Nat) (p : Pn), l[i]? = some p → c < 6 → (rowN l)[i * 6 + c]? = (pnCells p)[c]?
  | [], i, c, p, h, _ => by simp at h
  | q :: l, 0, c, p, h, hc => by
    simp only [List.getElem?_cons_zero, Option.some.injEq] at h
    subst h
    simp only [rowN, List.flatMap_cons]
    rw [List.getElem?_append_left (by simp [pnCells]; omega)]
    simp
  | q :: l, i + 1, c, p, h, hc => by
    have := rowN_at l i c p (by simpa using h) hc
    simp only [rowN, List.flatMap_cons] at this ⊢
    rw [List.getElem?_append_right (by simp [pnCells]; omega), ← this]
    congr 1
    simp [pnCells]; omega

/-- may the pin stand behind the one ahead of it? -/
def mayP (p : Pn) : Bool := mayKey p.g p.a p.t p.c && mayVer p.v && decide (1 ≤ p.sc) && decide (p.sc ≤ 5)
def prevB : Option Pn → Pn → Bool
  | none, _ => true
  | some q, p => decide (kcmp q.key p.key < 0)
def mayAt (l : List Pn) (i : Nat) : Bool :=
  match l[i]? with
  | none => true
  | some p => (decide (i = 0) || prevB l[i - 1]? p) && mayP p
def allMay (l : List Pn) : Bool := (List.range l.length).all (mayAt l)
def mayLock (g a v : ByteArray) (l : List Pn) : Bool := mayGav g a v && decide (l.length ≤ 4096) && allMay l
theorem allMay_iff {l : List Pn} : allMay l = true ↔ ∀ i, i < l.length → mayAt l i = true := by
  unfold allMay
  rw [List.all_eq_true]
  simp only [List.mem_range]
theorem allMay_no {l : List Pn} {i : Nat} (hi : i < l.length) (h : mayAt l i = false) : allMay l = false := by
  rw [Bool.eq_false_iff]
  intro ha
  rw [allMay_iff.1 ha i hi] at h; cases h
theorem mayAt_app (l m : List Pn) (i : Nat) (hi : i < l.length) : mayAt (l ++ m) i = mayAt l i := by
  unfold mayAt
  rw [List.getElem?_append_left hi, List.getElem?_append_left (by omega)]
theorem allMay_snoc {l : List Pn} {p : Pn} (h : allMay l = true) (hp : mayAt (l ++ [p]) l.length = true) : allMay (l ++ [p]) = true := by
  rw [allMay_iff] at h ⊢
  intro i hi
  simp only [List.length_append, List.length_cons, List.length_nil] at hi
  by_cases he : i < l.length
  · rw [mayAt_app _ _ _ he]; exact h i he
  · have : i = l.length := by omega
    subst this; exact hp

/-- the words of a lock's text -/
def wFirst : List UInt8 := [112, 111, 109, 97, 99, 101, 32, 49]
def wRoot : List UInt8 := [114, 111, 111, 116]
def wPin : List UInt8 := [112, 105, 110]
def wEndS : List UInt8 := [101, 110, 100, 32]
def rootLine (g a v : ByteArray) : List UInt8 := wRoot ++ 32 :: (printGav g a v).data.toList
def pinLine (p : Pn) : List UInt8 := wPin ++ 32 :: ((printKey p.g p.a p.t p.c).data.toList ++ 32 :: (p.v.data.toList ++ 32 :: (wordS p.sc).data.toList))
def endLine (n : Nat) : List UInt8 := wEndS ++ Lib.itoa n
def pinLines (l : List Pn) : List UInt8 := l.flatMap fun p => pinLine p ++ [10]
def printL (g a v : ByteArray) (l : List Pn) : List UInt8 := wFirst ++ [10] ++ (rootLine g a v ++ [10]) ++ pinLines l ++ (endLine l.length ++ [10])
theorem pinLines_snoc (l : List Pn) (p : Pn) : pinLines (l ++ [p]) = pinLines l ++ (pinLine p ++ [10]) := by simp [pinLines]

/-- what was read so far -/
structure St where
  rg : ByteArray
  ra : ByteArray
  rv : ByteArray
  pins : List Pn
  ended : Bool
def st0 : St := ⟨⟨#[]⟩, ⟨#[]⟩, ⟨#[]⟩, [], false⟩
def rootM (ws : List (List UInt8)) (st : St) : Option St :=
  match ws with
  | [x, y] => if x = wRoot then (match parseGav y with | some (g, a, v) => some ⟨g, a, v, st.pins, st.ended⟩ | none => none) else none
  | _ => none
def pinM (ws : List (List UInt8)) (st : St) : Option St :=
  match ws with
  | [_, k, v, s] =>
    if 4096 ≤ st.pins.length then none else
    match parseKey k with
    | none => none
    | some (g, a, t, c) =>
      if scopeI (str s) = 0 then none else
      if mayAt (st.pins ++ [⟨g, a, t, c, str v, scopeI (str s)⟩]) st.pins.length = true then some ⟨st.rg, st.ra, st.rv, st.pins ++ [⟨g, a, t, c, str v, scopeI (str s)⟩], st.ended⟩ else none
  | _ => none
def takeM (n : Nat) (t : List UInt8) (st : St) : Option St :=
  if n = 1 then (if t = wFirst then some st else none)
  else if st.ended = true then none
  else if n = 2 then rootM (pcd 32 t) st
  else if (pcd 32 t).head? = some wPin then pinM (pcd 32 t) st
  else if t = endLine st.pins.length then some ⟨st.rg, st.ra, st.rv, st.pins, true⟩ else none
def goM : Nat → List (List UInt8) → St → Nat ⊕ St
  | n, [], st => .inl n
  | n, [x], st => if x = [] then (if st.ended = true then .inr st else .inl n) else (match takeM n x st with | none => .inl n | some _ => .inl (n + 1))
  | n, x :: y :: r, st => match takeM n x st with | none => .inl n | some st' => goM (n + 1) (y :: r) st'
def parseL (s : List UInt8) : Nat ⊕ St := goM 1 (pcd 10 s) st0

theorem pinM_some {ws : List (List UInt8)} {st st' : St} (h : pinM ws st = some st') :
    ∃ x k v s g a t c, ws = [x, k, v, s] ∧ st.pins.length < 4096 ∧ parseKey k = some (g, a, t, c) ∧ scopeI (str s) ≠ 0 ∧ mayAt (st.pins ++ [⟨g, a, t, c, str v, scopeI (str s)⟩]) st.pins.length = true ∧
      st' = ⟨st.rg, st.ra, st.rv, st.pins ++ [⟨g, a, t, c, str v, scopeI (str s)⟩], st.ended⟩ := by
  unfold pinM at h
  split at h
  · rename_i x k v s
    split at h
    · cases h
    · rename_i h1
      split at h
      · cases h
      · rename_i g a t c hk
        split at h
        · cases h
        · rename_i h2
          split at h
          · rename_i h3
            cases h
            exact ⟨x, k, v, s, g, a, t, c, rfl, by omega, hk, h2, h3, rfl⟩
          · cases h
  · cases h
theorem rootM_some {ws : List (List UInt8)} {st st' : St} (h : rootM ws st = some st') :
    ∃ y g a v, ws = [wRoot, y] ∧ parseGav y = some (g, a, v) ∧ st' = ⟨g, a, v, st.pins, st.ended⟩ := by
  unfold rootM at h
  split at h
  · rename_i x y
    split at h
    · rename_i hx
      subst hx
      split at h
      · rename_i g a v hg
        cases h
        exact ⟨y, g, a, v, rfl, hg, rfl⟩
      · cases h
    · cases h
  · cases h
theorem str_data (l : List UInt8) : (str l).data.toList = l := rfl
/-- what is read as a project is printed so -/
theorem gav_printed {y : List UInt8} {g a v : ByteArray} (h : parseGav y = some (g, a, v)) : (printGav g a v).data.toList = y ∧ mayGav g a v = true := by
  unfold parseGav at h
  split at h
  · rename_i g0 a0 v0 hp
    split at h
    · rename_i hm
      cases h
      refine ⟨?_, hm⟩
      have hj := joinC_pcs y
      rw [hp] at hj
      rw [← hj]
      unfold printGav
      rw [lit_colon]
      simp only [app_str]
      rw [str_data]
      simp [joinC]
    · cases h
  · cases h
theorem key_printed {y : List UInt8} {g a t c : ByteArray} (h : parseKey y = some (g, a, t, c)) : (printKey g a t c).data.toList = y ∧ mayKey g a t c = true := by
  have hy : (str y).data.toList = y := rfl
  unfold parseKey at h
  split at h
  · rename_i g0 a0 t0 hp
    split at h
    · rename_i hm
      cases h
      exact ⟨(congrArg (fun s : ByteArray => s.data.toList) (printed3 (str y) g0 a0 t0 (by rw [hy]; exact hp))).trans hy, hm⟩
    · cases h
  · rename_i g0 a0 t0 c0 hp
    split at h
    · rename_i hm
      cases h
      exact ⟨(congrArg (fun s : ByteArray => s.data.toList) (printed4 (str y) g0 a0 t0 c0 hm.2 (by rw [hy]; exact hp))).trans hy, hm.1⟩
    · cases h
  · cases h
theorem word_scope (s : ByteArray) (h : scopeI s ≠ 0) : wordS (scopeI s) = s := by
  have key : ∀ (l : List UInt8), (s.toList == l) = true → s = ⟨l.toArray⟩ := fun l hl => by
    have : s.toList = l := beq_iff_eq.1 hl
    rw [ByteArray.toList_eq] at this
    rw [← str_toList s, this]; rfl
  unfold scopeI at h ⊢
  split at h
  · rename_i h1; rw [if_pos h1]; exact (key _ h1).symm
  rename_i n1
  split at h
  · rename_i h1; rw [if_neg n1, if_pos h1]; exact (key _ h1).symm
  rename_i n2
  split at h
  · rename_i h1; rw [if_neg n1, if_neg n2, if_pos h1]; exact (key _ h1).symm
  rename_i n3
  split at h
  · rename_i h1; rw [if_neg n1, if_neg n2, if_neg n3, if_pos h1]; exact (key _ h1).symm
  rename_i n4
  split at h
  · rename_i h1; rw [if_neg n1, if_neg n2, if_neg n3, if_neg n4, if_pos h1]; exact (key _ h1).symm
  rename_i n5
  split at h
  · rename_i h1; rw [if_neg n1, if_neg n2, if_neg n3, if_neg n4, if_neg n5, if_pos h1]; exact (key _ h1).symm
  · exact absurd rfl h
/-- what a line stands for -/
theorem take_line {n : Nat} {t : List UInt8} {st st' : St} (h : takeM n t st = some st') :
    (n = 1 ∧ t = wFirst ∧ st' = st) ∨
    (n ≠ 1 ∧ st.ended = false ∧ n = 2 ∧ ∃ g a v, t = rootLine g a v ∧ mayGav g a v = true ∧ st' = ⟨g, a, v, st.pins, false⟩) ∨
    (n ≠ 1 ∧ n ≠ 2 ∧ st.ended = false ∧ ∃ p, t = pinLine p ∧ st.pins.length < 4096 ∧ mayAt (st.pins ++ [p]) st.pins.length = true ∧ st' = ⟨st.rg, st.ra, st.rv, st.pins ++ [p], false⟩) ∨
    (n ≠ 1 ∧ n ≠ 2 ∧ st.ended = false ∧ t = endLine st.pins.length ∧ st' = ⟨st.rg, st.ra, st.rv, st.pins, true⟩) := by
  unfold takeM at h
  split at h
  · rename_i h1
    split at h
    · rename_i h2
      cases h
      exact .inl ⟨h1, h2, rfl⟩
    · cases h
  · rename_i h1
    split at h
    · cases h
    · rename_i h2
      have he : st.ended = false := by simpa using h2
      split at h
      · rename_i h3
        obtain ⟨y, g, a, v, hw, hg, rfl⟩ := rootM_some h
        obtain ⟨e1, e2⟩ := gav_printed hg
        refine .inr (.inl ⟨h1, he, h3, g, a, v, ?_, e2, by rw [he]⟩)
        have hj := joinD_pcd (d := 32) t
        rw [hw] at hj
        rw [← hj]
        simp [joinD, rootLine, e1]
      · rename_i h3
        split at h
        · rename_i h4
          obtain ⟨x, k, v, s, g, a, t', c, hw, hl, hk, hs, hm, rfl⟩ := pinM_some h
          obtain ⟨e1, e2⟩ := key_printed hk
          refine .inr (.inr (.inl ⟨h1, h3, he, ⟨g, a, t', c, str v, scopeI (str s)⟩, ?_, hl, hm, by rw [he]⟩))
          have hj := joinD_pcd (d := 32) t
          rw [hw] at hj h4
          simp only [List.head?_cons, Option.some.injEq] at h4
          subst h4
          rw [← hj]
          simp [joinD, pinLine, e1, word_scope _ hs, str_data]
        · split at h
          · rename_i h5
            cases h
            exact .inr (.inr (.inr ⟨h1, h3, he, h5, rfl⟩))
          · cases h
/-- what stands between two states -/
def restL (n : Nat) (st st' : St) : List UInt8 :=
  if n = 1 then wFirst ++ [10] ++ (rootLine st'.rg st'.ra st'.rv ++ [10]) ++ pinLines (st'.pins.drop st.pins.length) ++ (endLine st'.pins.length ++ [10])
  else if n = 2 then (rootLine st'.rg st'.ra st'.rv ++ [10]) ++ pinLines (st'.pins.drop st.pins.length) ++ (endLine st'.pins.length ++ [10])
  else if st.ended = true then [] else pinLines (st'.pins.drop st.pins.length) ++ (endLine st'.pins.length ++ [10])
/-- a text that was read is what its lock is printed as; and the lock may be -/
theorem go_back : ∀ (L : List (List UInt8)) (n : Nat) (st st' : St), 1 ≤ n → goM n L st = .inr st' → (n ≤ 2 → st.ended = false) → (n ≤ 2 → st.pins = []) → (3 ≤ n → mayGav st.rg st.ra st.rv = true) → allMay st.pins = true → st.pins.length ≤ 4096 →
    joinD 10 L = restL n st st' ∧ mayLock st'.rg st'.ra st'.rv st'.pins = true ∧ (∃ m, st'.pins = st.pins ++ m) ∧ (3 ≤ n → st'.rg = st.rg ∧ st'.ra = st.ra ∧ st'.rv = st.rv) ∧ (st.ended = true → st'.pins = st.pins)
  | [], n, st, st', _, h, _, _, _, _, _ => by simp [goM] at h
  | [x], n, st, st', hn, h, h2, hp2, h3, h4, h5 => by
    unfold goM at h
    split at h
    · rename_i hx
      split at h
      · rename_i he
        cases h
        have hn3 : 3 ≤ n := by
          rcases Nat.lt_or_ge n 3 with hlt | hge
          · rw [h2 (by omega)] at he; cases he
          · exact hge
        subst hx
        refine ⟨?_, ?_, ⟨[], by simp⟩, fun _ => ⟨rfl, rfl, rfl⟩, fun _ => rfl⟩
        · unfold restL
          rw [if_neg (by omega), if_neg (by omega), if_pos he]; rfl
        · unfold mayLock
          rw [h3 hn3, h4, decide_eq_true h5]; rfl
      · cases h
    · split at h <;> cases h
  | x :: y :: r, n, st, st', hn, h, h2, hp2, h3, h4, h5 => by
    unfold goM at h
    split at h
    · cases h
    · rename_i st1 ht
      have hj : joinD 10 (x :: y :: r) = x ++ 10 :: joinD 10 (y :: r) := rfl
      rcases take_line ht with ⟨k1, k2, rfl⟩ | ⟨k1, k2, k3, g, a, v, k4, k5, rfl⟩ | ⟨k1, k2, k3, p, k4, k5, k6, rfl⟩ | ⟨k1, k2, k3, k4, rfl⟩
      · subst k1
        obtain ⟨e1, e2, e3, e4, e5⟩ := go_back (y :: r) 2 st1 st' (by omega) h (fun _ => h2 (by omega)) (fun _ => hp2 (by omega)) (fun h => by omega) h4 h5
        refine ⟨?_, e2, e3, fun h => by omega, e5⟩
        rw [hj, e1, k2]
        unfold restL
        rw [if_neg (by omega), if_pos rfl, if_pos rfl]
        simp
      · subst k3
        obtain ⟨e1, e2, e3, e4, e5⟩ := go_back (y :: r) 3 _ st' (by omega) h (fun h => by omega) (fun h => by omega) (fun _ => k5) h4 h5
        obtain ⟨f1, f2, f3⟩ := e4 (by omega)
        simp only at f1 f2 f3
        refine ⟨?_, e2, e3, fun h => by omega, fun h => by rw [k2] at h; cases h⟩
        rw [hj, e1, k4]
        unfold restL
        rw [if_neg (by omega), if_neg (by omega), if_neg (by simp), if_neg (by omega), if_pos rfl, f1, f2, f3]
        simp
      · have hn3 : 3 ≤ n := by omega
        obtain ⟨e1, e2, ⟨m, e3⟩, e4, e5⟩ := go_back (y :: r) (n + 1) _ st' (by omega) h (fun h => by omega) (fun h => by omega) (fun _ => h3 hn3) (allMay_snoc h4 k6) (by simp; omega)
        refine ⟨?_, e2, ⟨p :: m, by rw [e3]; simp⟩, fun _ => e4 (by omega), fun h => by rw [k3] at h; cases h⟩
        rw [hj, e1, k4]
        unfold restL
        rw [if_neg (by omega), if_neg (by omega), if_neg (by simp), if_neg (by omega), if_neg (by omega), if_neg (by rw [k3]; simp), e3]
        simp [pinLines]
      · have hn3 : 3 ≤ n := by omega
        obtain ⟨e1, e2, e3, e4, e5⟩ := go_back (y :: r) (n + 1) _ st' (by omega) h (fun h => by omega) (fun h => by omega) (fun _ => h3 hn3) h4 h5
        have e6 := e5 rfl
        simp only at e6
        refine ⟨?_, e2, e3, fun _ => e4 (by omega), fun h => by rw [k3] at h; cases h⟩
        rw [hj, e1, k4]
        unfold restL
        rw [if_neg (by omega), if_neg (by omega), if_pos rfl, if_neg (by omega), if_neg (by omega), if_neg (by rw [k3]; simp), e6]
        simp [pinLines]
theorem parse_back {s : List UInt8} {st : St} (h : parseL s = .inr st) : printL st.rg st.ra st.rv st.pins = s ∧ mayLock st.rg st.ra st.rv st.pins = true := by
  obtain ⟨e1, e2, _⟩ := go_back (pcd 10 s) 1 st0 st (by omega) h (fun _ => rfl) (fun _ => rfl) (fun h => by omega) rfl (by simp [st0])
  rw [joinD_pcd] at e1
  refine ⟨?_, e2⟩
  rw [e1]
  unfold restL printL
  rw [if_pos rfl]
  simp [st0]
end Go.Proofs.YtcmojpfolmcaoaaDoor
