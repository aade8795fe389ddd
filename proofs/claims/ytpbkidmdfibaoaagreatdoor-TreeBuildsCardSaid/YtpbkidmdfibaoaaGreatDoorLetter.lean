/-
  Layer 1: letters: contracts of chars.Letter and of its answer. Own work.
-/
import Derived.Test.YtpbkidmdfibaoaaGreatDoorBytes
namespace Go.Proofs.YtpbkidmdfibaoaaGreatDoor
set_option linter.unusedVariables false
set_option linter.unusedSimpArgs false
open Go.RowKit

/-- is there a letter n? -/
def letOk (n : Int) : Bool := (n == 9 || n == 10 || n == 13 || decide (32 ≤ n) && decide (n ≤ 1114111)) && !(decide (55296 ≤ n) && decide (n ≤ 57343))
/-- its bytes -/
def letB (n : Int) : ByteArray := if letOk n then Utf8.encode n else ⟨#[]⟩

theorem letB_no {n : Int} (h : letOk n = false) : letB n = ⟨#[]⟩ := by simp [letB, h]
theorem letB_yes {n : Int} (h : letOk n = true) : letB n = Utf8.encode n := by simp [letB, h]

theorem Letter_ctl (n : Int) (w : World) (h : n = 9 ∨ n = 10 ∨ n = 13) :
    Calls Tryz.prog 128 #[.int .i64 n] w fun e w' => e = .returned (.tuple #[.string (letB n), .bool (letOk n)]) ∧ w' = w := by
  rcases h with rfl | rfl | rfl
  all_goals
    go_enter Tryz.func128, Tryz.ntmps128
    go_wp2
    go_ret2
    exact ⟨rfl, rfl⟩
theorem ret_let {s : ByteArray} {b : Bool} {n : Int} (hb : b = letOk n) (hs : letOk n = b → s = letB n) : Ending.returned (.tuple #[.string s, .bool b]) = .returned (.tuple #[.string (letB n), .bool (letOk n)]) := by
  subst hb; rw [hs rfl]
theorem Letter_any (n : Int) (w : World) :
    Calls Tryz.prog 128 #[.int .i64 n] w fun e w' => e = .returned (.tuple #[.string (letB n), .bool (letOk n)]) ∧ w' = w := by
  by_cases h : n = 9 ∨ n = 10 ∨ n = 13
  · exact Letter_ctl n w h
  have h9 : (n == 9) = false := by simp; omega
  have h10 : (n == 10) = false := by simp; omega
  have h13 : (n == 13) = false := by simp; omega
  clear h
  rcases Int.lt_or_le n 32 with h1 | h1
  · go_enter Tryz.func128, Tryz.ntmps128
    go_wp2
    go_ret2
    exact ⟨ret_let (by simp [letOk, *] <;> omega) (fun h => (letB_no h).symm), rfl⟩
  rcases Int.lt_or_le 1114111 n with h2 | h2
  · go_enter Tryz.func128, Tryz.ntmps128
    go_wp2
    go_ret2
    exact ⟨ret_let (by simp [letOk, *] <;> omega) (fun h => (letB_no h).symm), rfl⟩
  rcases Int.lt_or_le n 55296 with h3 | h3
  · go_enter Tryz.func128, Tryz.ntmps128
    go_wp2
    go_ret2
    exact ⟨ret_let (by have := h1; simp [letOk, *] <;> omega) (fun h => (letB_yes h).symm), rfl⟩
  rcases Int.lt_or_le 57343 n with h4 | h4
  · go_enter Tryz.func128, Tryz.ntmps128
    go_wp2
    go_ret2
    exact ⟨ret_let (by have := h1; simp [letOk, *] <;> omega) (fun h => (letB_yes h).symm), rfl⟩
  · go_enter Tryz.func128, Tryz.ntmps128
    go_wp2
    go_ret2
    exact ⟨ret_let (by simp [letOk, *]) (fun h => (letB_no h).symm), rfl⟩

/-- a text made of bytes that were just laid -/
theorem conv_new (w : World) (xs : List Int) : (convert 87 9 (.slice (some ⟨w.heap.size, 0, none⟩) xs.length xs.length)).run Tryz.prog (w.alloc (.cells (xs.map (Value.int .u8)).toArray 5)) = .ok (.string (strOfNums xs)) (w.alloc (.cells (xs.map (Value.int .u8)).toArray 5)) := by
  refine run_convert_bytes_arg _ 87 5 Tryz.underlying87 Tryz.underlying5 w.heap.size 0 xs.length xs.length xs rfl (fun i hi => ?_) 9 Tryz.underlying9
  rw [World.cell?_alloc_at _ _ _ _ rfl]
  simp [List.getD, hi]
theorem u8_eq (a : Int) (m : Nat) (h : a = m) : UInt8.ofNat a.toNat = UInt8.ofNat m := by subst h; rfl
theorem valid_of {n : Int} (h : letOk n = true) : Utf8.valid n = true := by
  simp [letOk] at h
  simp [Utf8.valid]
  omega
theorem enc1 {n : Int} (h : letOk n = true) (h2 : n < 128) : strOfNums [n] = letB n := by
  rw [letB_yes h]
  have : n.toNat < 128 := by omega
  have h0 : 0 ≤ n := by simp [letOk] at h; omega
  simp [Utf8.encode, valid_of h, this, strOfNums]
theorem enc2 {n : Int} (h : letOk n = true) (h1 : 128 ≤ n) (h2 : n < 2048) : strOfNums [192 + n / 64, 128 + n % 64] = letB n := by
  rw [letB_yes h]
  have e1 : ¬ n.toNat < 128 := by omega
  have e2 : n.toNat < 2048 := by omega
  simp only [Utf8.encode, valid_of h, e1, e2, if_true, if_false, strOfNums, List.map_cons, List.map_nil]
  rw [u8_eq (192 + n / 64) (192 + n.toNat / 64) (by omega), u8_eq (128 + n % 64) (128 + n.toNat % 64) (by omega)]
theorem enc3 {n : Int} (h : letOk n = true) (h1 : 2048 ≤ n) (h2 : n < 65536) : strOfNums [224 + n / 4096, 128 + n / 64 % 64, 128 + n % 64] = letB n := by
  rw [letB_yes h]
  have e1 : ¬ n.toNat < 128 := by omega
  have e2 : ¬ n.toNat < 2048 := by omega
  have e3 : n.toNat < 65536 := by omega
  simp only [Utf8.encode, valid_of h, e1, e2, e3, if_true, if_false, strOfNums, List.map_cons, List.map_nil]
  rw [u8_eq (224 + n / 4096) (224 + n.toNat / 4096) (by omega), u8_eq (128 + n / 64 % 64) (128 + n.toNat / 64 % 64) (by omega), u8_eq (128 + n % 64) (128 + n.toNat % 64) (by omega)]
theorem enc4 {n : Int} (h : letOk n = true) (h1 : 65536 ≤ n) : strOfNums [240 + n / 262144, 128 + n / 4096 % 64, 128 + n / 64 % 64, 128 + n % 64] = letB n := by
  rw [letB_yes h]
  have e1 : ¬ n.toNat < 128 := by omega
  have e2 : ¬ n.toNat < 2048 := by omega
  have e3 : ¬ n.toNat < 65536 := by omega
  simp only [Utf8.encode, valid_of h, e1, e2, e3, if_true, if_false, strOfNums, List.map_cons, List.map_nil]
  rw [u8_eq (240 + n / 262144) (240 + n.toNat / 262144) (by omega), u8_eq (128 + n / 4096 % 64) (128 + n.toNat / 4096 % 64) (by omega), u8_eq (128 + n / 64 % 64) (128 + n.toNat / 64 % 64) (by omega), u8_eq (128 + n % 64) (128 + n.toNat % 64) (by omega)]

theorem refLetter_ctl (n : Int) (w : World) (h : n = 9 ∨ n = 10 ∨ n = 13) :
    Calls Tryz.prog 112 #[.int .i64 n] w fun e w' => e = .returned (.string (letB n)) ∧ Below w.heap.size w w' := by
  have c1 := fun (w : World) (x : Int) => conv_new w [x]
  simp only [List.map_cons, List.map_nil, List.length_cons, List.length_nil, Nat.zero_add] at c1
  rcases h with rfl | rfl | rfl
  all_goals
    go_enter Tryz.func112, Tryz.ntmps112
    go_wp2
    go_ret
    exact ⟨ret_str rfl, (Below.refl _ _).alloc (Nat.le_refl _) _⟩
set_option maxHeartbeats 1000000 in
theorem refLetter_any (n : Int) (w : World) :
    Calls Tryz.prog 112 #[.int .i64 n] w fun e w' => e = .returned (.string (letB n)) ∧ Below w.heap.size w w' := by
  by_cases h : n = 9 ∨ n = 10 ∨ n = 13
  · exact refLetter_ctl n w h
  have h9 : (n == 9) = false := by simp; omega
  have h10 : (n == 10) = false := by simp; omega
  have h13 : (n == 13) = false := by simp; omega
  have k9 : (n != 9) = true := by simp; omega
  have k10 : (n != 10) = true := by simp; omega
  have k13 : (n != 13) = true := by simp; omega
  have c1 := fun (w : World) (x : Int) => conv_new w [x]
  have c2 := fun (w : World) (x y : Int) => conv_new w [x, y]
  have c3 := fun (w : World) (x y z : Int) => conv_new w [x, y, z]
  have c4 := fun (w : World) (x y z u : Int) => conv_new w [x, y, z, u]
  simp only [List.map_cons, List.map_nil, List.length_cons, List.length_nil, Nat.zero_add] at c1 c2 c3 c4
  clear h
  by_cases hok : letOk n = true
  · have HOK := Lib.hid hok
    have a1 : 32 ≤ n := by simp [letOk, h9, h10, h13] at hok; omega
    have a2 : n ≤ 1114111 := by simp [letOk, h9, h10, h13] at hok; omega
    have a3 : n < 55296 ∨ 57343 < n := by simp [letOk, h9, h10, h13] at hok; omega
    clear hok
    rcases Int.lt_or_le n 128 with b1 | b1
    · have a4 : n < 55296 := by omega
      clear a3
      go_enter Tryz.func112, Tryz.ntmps112
      go_wp2
      go_ret
      exact ⟨ret_str (enc1 HOK.out b1), (Below.refl _ _).alloc (Nat.le_refl _) _⟩
    rcases Int.lt_or_le n 2048 with b2 | b2
    · have a4 : n < 55296 := by omega
      clear a3
      go_enter Tryz.func112, Tryz.ntmps112
      go_wp2
      go_ret
      exact ⟨ret_str (enc2 HOK.out b1 b2), (Below.refl _ _).alloc (Nat.le_refl _) _⟩
    rcases Int.lt_or_le n 65536 with b3 | b3
    · rcases a3 with a4 | a4
      all_goals
        go_enter Tryz.func112, Tryz.ntmps112
        go_wp2
        go_ret
        exact ⟨ret_str (enc3 HOK.out b2 b3), (Below.refl _ _).alloc (Nat.le_refl _) _⟩
    · have a4 : 57343 < n := by omega
      clear a3
      go_enter Tryz.func112, Tryz.ntmps112
      go_wp2
      go_ret
      exact ⟨ret_str (enc4 HOK.out b3), (Below.refl _ _).alloc (Nat.le_refl _) _⟩
  · have hno : letOk n = false := by simpa using hok
    have HNO := Lib.hid (letB_no hno)
    have hc : n < 32 ∨ 32 ≤ n ∧ 1114111 < n ∨ 32 ≤ n ∧ n ≤ 1114111 ∧ 55296 ≤ n ∧ n ≤ 57343 := by simp [letOk, h9, h10, h13] at hno; omega
    clear hno hok
    rcases hc with a1 | ⟨a1, a2⟩ | ⟨a1, a2, a3, a4⟩
    all_goals
      go_enter Tryz.func112, Tryz.ntmps112
      go_wp2
      go_ret
      exact ⟨ret_str HNO.out.symm, Below.refl _ _⟩

end Go.Proofs.YtpbkidmdfibaoaaGreatDoor
