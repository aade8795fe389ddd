/-
  Layer 1: references by number: what they come to (plain), and the contracts of chars.digit and chars.numbered. Own work.
-/
import Derived.Test.YtpbkidmdfibaoaaGreatDoorLetter
namespace Go.Proofs.YtpbkidmdfibaoaaGreatDoor
set_option linter.unusedVariables false
set_option linter.unusedSimpArgs false
open Go.RowKit

/-- what a byte stands for as a digit of a number of base b -/
def dval (b : Int) (c : UInt8) : Option Int :=
  if 48 ≤ c.toNat ∧ c.toNat ≤ 57 then some ((c.toNat : Int) - 48)
  else if b = 16 ∧ 97 ≤ c.toNat ∧ c.toNat ≤ 102 then some ((c.toNat : Int) - 87)
  else if b = 16 ∧ 65 ≤ c.toNat ∧ c.toNat ≤ 70 then some ((c.toNat : Int) - 55)
  else none
def digs (b : Int) (l : List UInt8) : List UInt8 := l.takeWhile (fun c => (dval b c).isSome)
def dnum (b : Int) (ds : List UInt8) : Int := ds.foldl (fun n c => n * b + (dval b c).getD 0) 0

theorem dval_bd {b : Int} {c : UInt8} {d : Int} (hb : b = 10 ∨ b = 16) (h : dval b c = some d) : 0 ≤ d ∧ d < b := by
  unfold dval at h
  repeat' split at h
  all_goals first
    | (cases h; omega)
    | (simp at h)
theorem dval_get {b : Int} {c : UInt8} (hb : b = 10 ∨ b = 16) : 0 ≤ (dval b c).getD 0 ∧ (dval b c).getD 0 < b := by
  cases h : dval b c with
  | none => simp; omega
  | some d => simpa using dval_bd hb h
theorem dnum_snoc (b : Int) (l : List UInt8) (c : UInt8) : dnum b (l ++ [c]) = dnum b l * b + (dval b c).getD 0 := by
  simp [dnum, List.foldl_append]
theorem dnum_bd (b : Int) (hb : b = 10 ∨ b = 16) (n : Nat) : ∀ l : List UInt8, l.length ≤ n → 0 ≤ dnum b l ∧ dnum b l < 16 ^ n := by
  induction n with
  | zero =>
    intro l h
    have : l = [] := List.eq_nil_of_length_eq_zero (by omega)
    subst this
    simp [dnum]
  | succ n ih =>
    intro l h
    rcases List.eq_nil_or_concat l with rfl | ⟨l', c, rfl⟩
    · simp [dnum]; exact Int.pow_pos (by omega)
    · rw [List.concat_eq_append, dnum_snoc]
      have h1 := ih l' (by simp at h; omega)
      have h2 := dval_get (b := b) (c := c) hb
      rw [Int.pow_succ]
      rcases hb with rfl | rfl <;> omega
theorem dnum_bd8 {b : Int} (hb : b = 10 ∨ b = 16) {l : List UInt8} (h : l.length ≤ 8) : 0 ≤ dnum b l ∧ dnum b l < 4294967296 := by
  have := dnum_bd b hb 8 l h
  exact ⟨this.1, by have := this.2; simpa using this⟩
theorem dnum_bd9 {b : Int} (hb : b = 10 ∨ b = 16) {l : List UInt8} (h : l.length ≤ 9) : 0 ≤ dnum b l ∧ dnum b l < 68719476736 := by
  have := dnum_bd b hb 9 l h
  exact ⟨this.1, by have := this.2; simpa using this⟩

/-- the reference whose digits begin at f, j of them: text, size; 0 there is one, 1 the text ends, 2 none -/
def finS (b : Int) (l : List UInt8) (f j : Nat) : ByteArray × Nat × Nat :=
  if f + j = l.length then (⟨#[]⟩, 0, 1)
  else if j = 0 ∨ l[f + j]? ≠ some 59 then (⟨#[]⟩, 0, 2)
  else if letOk (dnum b ((l.drop f).take j)) then (letB (dnum b ((l.drop f).take j)), f + j + 1, 0)
  else (⟨#[]⟩, 0, 2)
def numS (b : Int) (l : List UInt8) (f : Nat) : ByteArray × Nat × Nat := finS b l f (min (digs b (l.drop f)).length 8)

/-- how many digits are met: k is such if all ahead of it are digits, and it is the end, or the limit, or no digit -/
theorem digs_stop {b : Int} {l : List UInt8} {f k m : Nat} (hfk : f ≤ k) (hkm : k - f ≤ m) (hall : ∀ i c, f ≤ i → i < k → l[i]? = some c → (dval b c).isSome = true) (hkl : k ≤ l.length)
    (hstop : k = l.length ∨ k - f = m ∨ ∃ c, l[k]? = some c ∧ dval b c = none) : min (digs b (l.drop f)).length m = k - f := by
  have hpre : (l.drop f).take (k - f) <+: digs b (l.drop f) := by
    unfold digs
    have hsplit : l.drop f = (l.drop f).take (k - f) ++ (l.drop f).drop (k - f) := (List.take_append_drop _ _).symm
    have hall' : ∀ a ∈ (l.drop f).take (k - f), (fun c => (dval b c).isSome) a = true := by
      intro a ha
      obtain ⟨i, hi, rfl⟩ := List.getElem_of_mem ha
      simp at hi
      have hg : ((l.drop f).take (k - f))[i]'(by simp; omega) = l[f + i]'(by omega) := by simp
      rw [hg]
      exact hall (f + i) _ (by omega) (by omega) (List.getElem?_eq_getElem (by omega))
    conv => rhs; rw [hsplit]
    rw [List.takeWhile_append_of_pos hall']
    exact List.prefix_append _ _
  have hle := hpre.length_le
  simp at hle
  rcases hstop with h | h | ⟨c, hc, hn⟩
  · have : (digs b (l.drop f)).length ≤ (l.drop f).length := (List.takeWhile_prefix _).length_le
    simp at this
    omega
  · omega
  · have hlen : (digs b (l.drop f)).length ≤ k - f := by
      rcases Nat.lt_or_ge (k - f) (digs b (l.drop f)).length with hgt | hge
      · exfalso
        have hp : digs b (l.drop f) <+: l.drop f := List.takeWhile_prefix _
        have hm : (digs b (l.drop f))[k - f]'hgt ∈ digs b (l.drop f) := List.getElem_mem _
        have hq := List.all_eq_true.1 (List.all_takeWhile (p := fun c => (dval b c).isSome) (l := l.drop f)) _ hm
        have he : (digs b (l.drop f))[k - f]? = l[k]? := by
          rw [List.prefix_iff_eq_take.1 hp, List.getElem?_take, if_pos hgt, List.getElem?_drop]
          congr 1; omega
        rw [List.getElem?_eq_getElem hgt, hc] at he
        simp at he
        rw [he, hn] at hq
        simp at hq
      · exact hge
    omega

def errno (y : Nat) : Int := if y = 0 then 0 else if y = 1 then 13 else 12
def refV (x : ByteArray × Nat × Nat) : Value := .tuple #[.string x.1, .int .i64 x.2.1, .int .i64 (errno x.2.2)]

theorem dval_yes {b : Int} {c : UInt8} (h : isDigit c.toNat = true) : dval b c = some ((c.toNat : Int) - 48) := by
  simp [isDigit] at h
  unfold dval
  rw [if_pos (by omega)]
theorem dval_no10 {c : UInt8} (h : isDigit c.toNat = false) : dval 10 c = none := by
  simp [isDigit] at h
  unfold dval
  rw [if_neg (by omega), if_neg (by omega), if_neg (by omega)]

theorem ret_dig {b x : Int} {c : UInt8} {y : Bool} (h : dval b c = if y then some x else none) (hx : y = false → x = 0) : Ending.returned (.tuple #[.int .i64 x, .bool y]) = .returned (.tuple #[.int .i64 ((dval b c).getD 0), .bool (dval b c).isSome]) := by
  rw [h]
  cases y <;> simp at hx ⊢
  exact hx
set_option maxHeartbeats 1000000 in
set_option maxRecDepth 100000 in
theorem digit_any (b : Int) (hb : b = 10 ∨ b = 16) (c : UInt8) (w : World) :
    Calls Tryz.prog 127 #[.int .u8 c.toNat, .int .i64 b] w fun e w' => e = .returned (.tuple #[.int .i64 ((dval b c).getD 0), .bool (dval b c).isSome]) ∧ w' = w := by
  have hc : (c.toNat : Int) < 256 := by have := c.toNat_lt; omega
  by_cases hd : isDigit c.toNat = true
  · have HD := Lib.hid (dval_yes (b := b) hd)
    have h1 : (48 : Int) ≤ c.toNat := by simp [isDigit] at hd; omega
    have HB := Lib.hid hb; clear hb
    go_enter Tryz.func127, Tryz.ntmps127
    go_wp2_with (go_at_call 96; refine (IsDigit_any _ _).mono ?_; rintro e w' ⟨rfl, rfl⟩)
    go_ret2
    exact ⟨ret_dig (by rw [HD.out]; simp) (by simp), rfl⟩
  · have hd : isDigit c.toNat = false := by simpa using hd
    rcases hb with rfl | rfl
    · have HD := Lib.hid (dval_no10 hd)
      go_enter Tryz.func127, Tryz.ntmps127
      go_wp2_with (go_at_call 96; refine (IsDigit_any _ _).mono ?_; rintro e w' ⟨rfl, rfl⟩)
      go_ret2
      exact ⟨ret_dig (by rw [HD.out]; simp) (by simp), rfl⟩
    · have hd' : ¬ (48 ≤ c.toNat ∧ c.toNat ≤ 57) := by simp [isDigit] at hd; omega
      by_cases h1 : 97 ≤ c.toNat ∧ c.toNat ≤ 102
      · have HD : Hid (dval 16 c = some ((c.toNat : Int) - 87)) := Lib.hid (by unfold dval; rw [if_neg hd', if_pos ⟨rfl, h1⟩])
        have h2 : (97 : Int) ≤ c.toNat := by omega
        have h3 : (c.toNat : Int) ≤ 102 := by omega
        clear h1 hd'
        go_enter Tryz.func127, Tryz.ntmps127
        go_wp2_with (go_at_call 96; refine (IsDigit_any _ _).mono ?_; rintro e w' ⟨rfl, rfl⟩)
        go_ret2
        exact ⟨ret_dig (by rw [HD.out]; simp; omega) (by simp), rfl⟩
      · by_cases h4 : 65 ≤ c.toNat ∧ c.toNat ≤ 70
        · have HD : Hid (dval 16 c = some ((c.toNat : Int) - 55)) := Lib.hid (by unfold dval; rw [if_neg hd', if_neg (by omega), if_pos ⟨rfl, h4⟩])
          have h2 : (65 : Int) ≤ c.toNat := by omega
          have h3 : (c.toNat : Int) ≤ 70 := by omega
          have h5 : (c.toNat : Int) < 97 := by omega
          clear h1 h4 hd'
          go_enter Tryz.func127, Tryz.ntmps127
          go_wp2_with (go_at_call 96; refine (IsDigit_any _ _).mono ?_; rintro e w' ⟨rfl, rfl⟩)
          go_ret2
          exact ⟨ret_dig (by rw [HD.out]; simp; omega) (by simp), rfl⟩
        · have HD : Hid (dval 16 c = none) := Lib.hid (by unfold dval; rw [if_neg hd', if_neg (by omega), if_neg (by omega)])
          rcases Int.lt_or_le c.toNat 65 with h2 | h2
          · have h5 : (c.toNat : Int) < 97 := by omega
            clear h1 h4 hd'
            go_enter Tryz.func127, Tryz.ntmps127
            go_wp2_with (go_at_call 96; refine (IsDigit_any _ _).mono ?_; rintro e w' ⟨rfl, rfl⟩)
            go_ret2
            exact ⟨ret_dig (by rw [HD.out]; simp) (by simp), rfl⟩
          · have h3 : (70 : Int) < c.toNat := by omega
            rcases Int.lt_or_le c.toNat 97 with h5 | h5
            · clear h1 h4 hd'
              go_enter Tryz.func127, Tryz.ntmps127
              go_wp2_with (go_at_call 96; refine (IsDigit_any _ _).mono ?_; rintro e w' ⟨rfl, rfl⟩)
              go_ret2
              exact ⟨ret_dig (by rw [HD.out]; simp) (by simp), rfl⟩
            · have h6 : (102 : Int) < c.toNat := by omega
              clear h1 h4 hd'
              go_enter Tryz.func127, Tryz.ntmps127
              go_wp2_with (go_at_call 96; refine (IsDigit_any _ _).mono ?_; rintro e w' ⟨rfl, rfl⟩)
              go_ret2
              exact ⟨ret_dig (by rw [HD.out]; simp) (by simp), rfl⟩

end Go.Proofs.YtpbkidmdfibaoaaGreatDoor
