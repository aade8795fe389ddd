/-
  Layer 1: references: what they come to (plain), and the contracts of chars.named, chars.beginsNamed, chars.Ref. Own work.
-/
import Derived.Test.YtpbkidmdfibaoaaGreatDoorNum2
import Derived.Test.YtpbkidmdfibaoaaGreatDoorShelf
namespace Go.Proofs.YtpbkidmdfibaoaaGreatDoor
set_option linter.unusedVariables false
set_option linter.unusedSimpArgs false
open Go.RowKit

theorem tl_eq (x y : List UInt8) : ((str x).toList == y) = (x == y) := by simp [ByteArray.toList_eq, str]

/-- the references by name, and their letters -/
def words : List (List UInt8 × UInt8) := [([38, 108, 116, 59], 60), ([38, 103, 116, 59], 62), ([38, 97, 109, 112, 59], 38), ([38, 113, 117, 111, 116, 59], 34), ([38, 97, 112, 111, 115, 59], 39)]
/-- the reference with which l begins: text, size; 0 there is one, 1 the text ends, 2 none -/
def refS (l : List UInt8) : ByteArray × Nat × Nat :=
  if [38, 35, 120].isPrefixOf l then numS 16 l 3
  else if [38, 35].isPrefixOf l then numS 10 l 2
  else match words.find? (fun w => w.1.isPrefixOf l) with
    | some w => (str [w.2], w.1.length, 0)
    | none => if words.any (fun w => l.isPrefixOf w.1) then (⟨#[]⟩, 0, 1) else (⟨#[]⟩, 0, 2)

theorem named_0 (w : World) :
    Calls Tryz.prog 123 #[.string (str [108, 116])] w fun e w' => e = .returned (.tuple #[.int .i32 60, .bool true]) ∧ w' = w := by
  have q0 : ((str [108, 116]).toList == [108, 116]) = true := by rw [tl_eq]; decide
  go_enter Tryz.func123, Tryz.ntmps123
  go_wp2
  go_ret2
  exact ⟨rfl, rfl⟩
theorem named_1 (w : World) :
    Calls Tryz.prog 123 #[.string (str [103, 116])] w fun e w' => e = .returned (.tuple #[.int .i32 62, .bool true]) ∧ w' = w := by
  have q0 : ((str [103, 116]).toList == [108, 116]) = false := by rw [tl_eq]; decide
  have q1 : ((str [103, 116]).toList == [103, 116]) = true := by rw [tl_eq]; decide
  go_enter Tryz.func123, Tryz.ntmps123
  go_wp2
  go_ret2
  exact ⟨rfl, rfl⟩
theorem named_2 (w : World) :
    Calls Tryz.prog 123 #[.string (str [97, 109, 112])] w fun e w' => e = .returned (.tuple #[.int .i32 38, .bool true]) ∧ w' = w := by
  have q0 : ((str [97, 109, 112]).toList == [108, 116]) = false := by rw [tl_eq]; decide
  have q1 : ((str [97, 109, 112]).toList == [103, 116]) = false := by rw [tl_eq]; decide
  have q2 : ((str [97, 109, 112]).toList == [97, 109, 112]) = true := by rw [tl_eq]; decide
  go_enter Tryz.func123, Tryz.ntmps123
  go_wp2
  go_ret2
  exact ⟨rfl, rfl⟩
theorem named_3 (w : World) :
    Calls Tryz.prog 123 #[.string (str [113, 117, 111, 116])] w fun e w' => e = .returned (.tuple #[.int .i32 34, .bool true]) ∧ w' = w := by
  have q0 : ((str [113, 117, 111, 116]).toList == [108, 116]) = false := by rw [tl_eq]; decide
  have q1 : ((str [113, 117, 111, 116]).toList == [103, 116]) = false := by rw [tl_eq]; decide
  have q2 : ((str [113, 117, 111, 116]).toList == [97, 109, 112]) = false := by rw [tl_eq]; decide
  have q3 : ((str [113, 117, 111, 116]).toList == [113, 117, 111, 116]) = true := by rw [tl_eq]; decide
  go_enter Tryz.func123, Tryz.ntmps123
  go_wp2
  go_ret2
  exact ⟨rfl, rfl⟩
theorem named_4 (w : World) :
    Calls Tryz.prog 123 #[.string (str [97, 112, 111, 115])] w fun e w' => e = .returned (.tuple #[.int .i32 39, .bool true]) ∧ w' = w := by
  have q0 : ((str [97, 112, 111, 115]).toList == [108, 116]) = false := by rw [tl_eq]; decide
  have q1 : ((str [97, 112, 111, 115]).toList == [103, 116]) = false := by rw [tl_eq]; decide
  have q2 : ((str [97, 112, 111, 115]).toList == [97, 109, 112]) = false := by rw [tl_eq]; decide
  have q3 : ((str [97, 112, 111, 115]).toList == [113, 117, 111, 116]) = false := by rw [tl_eq]; decide
  have q4 : ((str [97, 112, 111, 115]).toList == [97, 112, 111, 115]) = true := by rw [tl_eq]; decide
  go_enter Tryz.func123, Tryz.ntmps123
  go_wp2
  go_ret2
  exact ⟨rfl, rfl⟩
theorem named_no (x : List UInt8) (h0 : x ≠ [108, 116]) (h1 : x ≠ [103, 116]) (h2 : x ≠ [97, 109, 112]) (h3 : x ≠ [113, 117, 111, 116]) (h4 : x ≠ [97, 112, 111, 115]) (w : World) :
    Calls Tryz.prog 123 #[.string (str x)] w fun e w' => e = .returned (.tuple #[.int .i32 0, .bool false]) ∧ w' = w := by
  have q0 : ((str x).toList == [108, 116]) = false := by rw [tl_eq]; simpa using h0
  have q1 : ((str x).toList == [103, 116]) = false := by rw [tl_eq]; simpa using h1
  have q2 : ((str x).toList == [97, 109, 112]) = false := by rw [tl_eq]; simpa using h2
  have q3 : ((str x).toList == [113, 117, 111, 116]) = false := by rw [tl_eq]; simpa using h3
  have q4 : ((str x).toList == [97, 112, 111, 115]) = false := by rw [tl_eq]; simpa using h4
  clear h0 h1 h2 h3 h4
  go_enter Tryz.func123, Tryz.ntmps123
  go_wp2
  go_ret2
  exact ⟨rfl, rfl⟩

theorem hpre (a b : List UInt8) : b.isPrefixOf a = Lib.hasPrefix a b := rfl
set_option maxHeartbeats 1000000 in
theorem beginsNamed_any (s : ByteArray) (w : World) :
    Calls Tryz.prog 124 #[.string s] w fun e w' => e = .returned (.bool (words.any (fun w => s.data.toList.isPrefixOf w.1))) ∧ w' = w := by
  have i0 : ∀ w, (Instr.index 146 (.agg #[.string ⟨#[38, 108, 116, 59]⟩, .string ⟨#[38, 103, 116, 59]⟩, .string ⟨#[38, 97, 109, 112, 59]⟩, .string ⟨#[38, 113, 117, 111, 116, 59]⟩, .string ⟨#[38, 97, 112, 111, 115, 59]⟩]) (.int .i64 0)).run Tryz.prog w = .ok (.string ⟨#[38, 108, 116, 59]⟩) w := fun _ => by kernel_rfl
  have i1 : ∀ w, (Instr.index 146 (.agg #[.string ⟨#[38, 108, 116, 59]⟩, .string ⟨#[38, 103, 116, 59]⟩, .string ⟨#[38, 97, 109, 112, 59]⟩, .string ⟨#[38, 113, 117, 111, 116, 59]⟩, .string ⟨#[38, 97, 112, 111, 115, 59]⟩]) (.int .i64 1)).run Tryz.prog w = .ok (.string ⟨#[38, 103, 116, 59]⟩) w := fun _ => by kernel_rfl
  have i2 : ∀ w, (Instr.index 146 (.agg #[.string ⟨#[38, 108, 116, 59]⟩, .string ⟨#[38, 103, 116, 59]⟩, .string ⟨#[38, 97, 109, 112, 59]⟩, .string ⟨#[38, 113, 117, 111, 116, 59]⟩, .string ⟨#[38, 97, 112, 111, 115, 59]⟩]) (.int .i64 2)).run Tryz.prog w = .ok (.string ⟨#[38, 97, 109, 112, 59]⟩) w := fun _ => by kernel_rfl
  have i3 : ∀ w, (Instr.index 146 (.agg #[.string ⟨#[38, 108, 116, 59]⟩, .string ⟨#[38, 103, 116, 59]⟩, .string ⟨#[38, 97, 109, 112, 59]⟩, .string ⟨#[38, 113, 117, 111, 116, 59]⟩, .string ⟨#[38, 97, 112, 111, 115, 59]⟩]) (.int .i64 3)).run Tryz.prog w = .ok (.string ⟨#[38, 113, 117, 111, 116, 59]⟩) w := fun _ => by kernel_rfl
  have i4 : ∀ w, (Instr.index 146 (.agg #[.string ⟨#[38, 108, 116, 59]⟩, .string ⟨#[38, 103, 116, 59]⟩, .string ⟨#[38, 97, 109, 112, 59]⟩, .string ⟨#[38, 113, 117, 111, 116, 59]⟩, .string ⟨#[38, 97, 112, 111, 115, 59]⟩]) (.int .i64 4)).run Tryz.prog w = .ok (.string ⟨#[38, 97, 112, 111, 115, 59]⟩) w := fun _ => by kernel_rfl
  go_enter Tryz.func124, Tryz.ntmps124
  go_wp2
  refine wp_loop_rounds 6 ?_
  rw [rounds_succ]
  go_wp2_with (go_at_call 99; refine (Tryz.strings_HasPrefix _ _ _).mono ?_; rintro e w' ⟨rfl, rfl⟩)
  any_goals (rw [rounds_succ]; go_wp2_with (go_at_call 99; refine (Tryz.strings_HasPrefix _ _ _).mono ?_; rintro e w' ⟨rfl, rfl⟩))
  any_goals (rw [rounds_succ]; go_wp2_with (go_at_call 99; refine (Tryz.strings_HasPrefix _ _ _).mono ?_; rintro e w' ⟨rfl, rfl⟩))
  any_goals (rw [rounds_succ]; go_wp2_with (go_at_call 99; refine (Tryz.strings_HasPrefix _ _ _).mono ?_; rintro e w' ⟨rfl, rfl⟩))
  any_goals (rw [rounds_succ]; go_wp2_with (go_at_call 99; refine (Tryz.strings_HasPrefix _ _ _).mono ?_; rintro e w' ⟨rfl, rfl⟩))
  any_goals (rw [rounds_succ]; go_wp2_with (go_at_call 99; refine (Tryz.strings_HasPrefix _ _ _).mono ?_; rintro e w' ⟨rfl, rfl⟩))
  all_goals (go_ret; exact ⟨ret_bool (by simp [words, hpre, *]), rfl⟩)

theorem idx_some {l : List UInt8} {c : UInt8} {e : Int} (h : Lib.indexByte l c = e) (he : 0 ≤ e) : l[e.toNat]? = some c := by
  induction l generalizing e with
  | nil => simp [Lib.indexByte] at h; omega
  | cons b l ih =>
    unfold Lib.indexByte at h
    split at h
    · rename_i hb
      subst h
      have : b = c := by simpa using hb
      simp [this]
    · split at h
      · omega
      · rename_i h1 h2
        have h3 := Lib.indexByte_ge l c
        have h4 : Lib.indexByte l c ≠ -1 := by simpa using h2
        have h5 := ih rfl (by omega)
        rw [show e.toNat = (Lib.indexByte l c).toNat + 1 by omega, List.getElem?_cons_succ]
        exact h5

/-- where no reference by name stands at the front, what lies between & and ; is no name -/
theorem body_no {l b : List UInt8} {e : Int} (h : Lib.indexByte l 59 = e) (h0 : 0 < e) (h38 : l[0]? = some 38) (hn : (38 :: b ++ [59]).isPrefixOf l = false) : (l.take e.toNat).drop 1 ≠ b := by
  intro hb
  have h1 := idx_some h (by omega)
  obtain ⟨r, rfl⟩ : ∃ r, l = 38 :: r := by
    cases l with
    | nil => simp at h38
    | cons x r => simp at h38; exact ⟨r, by rw [h38]⟩
  obtain ⟨n, hn'⟩ : ∃ n, e.toNat = n + 1 := ⟨e.toNat - 1, by omega⟩
  rw [hn'] at h1 hb
  simp at h1 hb
  have hp : (38 :: b ++ [59]) <+: (38 :: r) := by
    rw [← hb]
    have hk := take_snoc r n 59 h1
    have : (38 :: List.take n r ++ [59]) = 38 :: List.take (n + 1) r := by rw [hk]; rfl
    rw [this]
    exact (List.cons_prefix_cons).2 ⟨rfl, List.take_prefix _ _⟩
  rw [List.isPrefixOf_iff_prefix.2 hp] at hn
  cases hn

theorem Ref_num (s : ByteArray) (hs : s.size ≤ 1000000) (w : World) (h : [38, 35].isPrefixOf s.data.toList = true) :
    Calls Tryz.prog 114 #[.string s] w fun e w' => e = .returned (refV (refS s.data.toList)) ∧ w' = w := by
  have hl2 : 2 ≤ s.size := by
    have := (List.isPrefixOf_iff_prefix.1 h).length_le
    simpa using this
  by_cases hx : [38, 35, 120].isPrefixOf s.data.toList = true
  · have hl3 : 3 ≤ s.size := by
      have := (List.isPrefixOf_iff_prefix.1 hx).length_le
      simpa using this
    have e1 : Lib.hasPrefix s.data.toList (⟨#[38, 35, 120]⟩ : ByteArray).data.toList = true := hx
    have HR : Hid (refS s.data.toList = numS 16 s.data.toList 3) := Lib.hid (by unfold refS; rw [if_pos hx])
    clear h hx
    obtain ⟨x, hx⟩ : ∃ x, x = numS 16 s.data.toList 3 := ⟨_, rfl⟩
    have hc := numbered_any 16 (.inr rfl) s 3 hl3 hs w
    rw [← hx] at hc
    have HX := Lib.hid hx; clear hx
    have HC := Lib.hid hc; clear hc
    go_enter Tryz.func114, Tryz.ntmps114
    go_wp2_with (first
      | (go_at_call 99; refine (Tryz.strings_HasPrefix _ _ _).mono ?_; rw [e1]; rintro e w' ⟨rfl, rfl⟩)
      | (go_at_call 121; refine HC.out.mono ?_; unfold refV; rintro e w' ⟨rfl, rfl⟩))
    go_ret3
    exact ⟨ref_ret (by rw [HR.out, HX.out]), rfl⟩
  · have hx : [38, 35, 120].isPrefixOf s.data.toList = false := Bool.eq_false_iff.2 hx
    have e1 : Lib.hasPrefix s.data.toList (⟨#[38, 35, 120]⟩ : ByteArray).data.toList = false := hx
    have e2 : Lib.hasPrefix s.data.toList (⟨#[38, 35]⟩ : ByteArray).data.toList = true := h
    have HR : Hid (refS s.data.toList = numS 10 s.data.toList 2) := Lib.hid (by unfold refS; rw [if_neg (by simp [hx]), if_pos h])
    clear h hx
    obtain ⟨x, hx⟩ : ∃ x, x = numS 10 s.data.toList 2 := ⟨_, rfl⟩
    have hc := numbered_any 10 (.inl rfl) s 2 hl2 hs w
    rw [← hx] at hc
    have HX := Lib.hid hx; clear hx
    have HC := Lib.hid hc; clear hc
    go_enter Tryz.func114, Tryz.ntmps114
    go_wp2_with (first
      | (go_at_call 99; refine (Tryz.strings_HasPrefix _ _ _).mono ?_; first | rw [e1] | rw [e2]; rintro e w' ⟨rfl, rfl⟩)
      | (go_at_call 121; refine HC.out.mono ?_; unfold refV; rintro e w' ⟨rfl, rfl⟩))
    go_ret3
    exact ⟨ref_ret (by rw [HR.out, HX.out]), rfl⟩

theorem hidx0 (s : ByteArray) (c : UInt8) (h : s.data.toList[0]? = some c) (w : World) :
    (Instr.index 9 (.string s) (.int .i64 0)).run Tryz.prog w = .ok (.int .u8 (c.toNat : Int)) w := hidx s 0 c h w
theorem hcut1 (s : ByteArray) (e : Int) (h1 : 1 ≤ e) (h2 : e ≤ s.size) (w : World) :
    (Instr.slice 9 (.string s) (some (.int .i64 1)) (some (.int .i64 e)) none).run Tryz.prog w = .ok (.string (str ((s.data.toList.take e.toNat).drop 1))) w := by
  rw [run_slice_string w 9 s _ _ _ _ Tryz.underlying9 (by omega) h1 h2, ext_str]; rfl

theorem Ref_word0 (s : ByteArray) (r : List UInt8) (hr : s.data.toList = [38, 108, 116, 59] ++ r) (w : World) :
    Calls Tryz.prog 114 #[.string s] w fun e w' => e = .returned (refV (refS s.data.toList)) ∧ w' = w := by
  have e1 : Lib.hasPrefix s.data.toList (⟨#[38, 35, 120]⟩ : ByteArray).data.toList = false := by rw [hr]; simp [Lib.hasPrefix, List.isPrefixOf]
  have e2 : Lib.hasPrefix s.data.toList (⟨#[38, 35]⟩ : ByteArray).data.toList = false := by rw [hr]; simp [Lib.hasPrefix, List.isPrefixOf]
  have e3 : Lib.indexByte s.data.toList ((59 : Int).toNat.toUInt8) = 3 := by
    have : (59 : Int).toNat.toUInt8 = 59 := by decide
    rw [this, hr]; simp [Lib.indexByte]
  have e4 := hidx0 s 38 (by rw [hr]; rfl)
  have e5 := hcut1 s 3 (by omega) (by have := congrArg List.length hr; simp at this; omega)
  have e6 : (s.data.toList.take (3 : Int).toNat).drop 1 = [108, 116] := by rw [hr]; rfl
  rw [e6] at e5
  have HR : Hid (refS s.data.toList = (Utf8.encode 60, 4, 0)) := Lib.hid (by
    rw [hr]; simp [refS, words]; rfl)
  clear hr e6
  go_enter Tryz.func114, Tryz.ntmps114
  go_wp2_with (first
    | (go_at_call 99; refine (Tryz.strings_HasPrefix _ _ _).mono ?_; (first | rw [e1] | rw [e2]); rintro e w' ⟨rfl, rfl⟩)
    | (go_at_call 122; refine (Tryz.strings_IndexByte _ _ _).mono ?_; rw [e3]; rintro e w' ⟨rfl, rfl⟩)
    | (go_at_call 123; refine (named_0 _).mono ?_; rintro e w' ⟨rfl, rfl⟩))
  go_ret3
  exact ⟨ref_ret (x := (Utf8.encode 60, 4, 0)) HR.out.symm, rfl⟩

theorem Ref_word1 (s : ByteArray) (r : List UInt8) (hr : s.data.toList = [38, 103, 116, 59] ++ r) (w : World) :
    Calls Tryz.prog 114 #[.string s] w fun e w' => e = .returned (refV (refS s.data.toList)) ∧ w' = w := by
  have e1 : Lib.hasPrefix s.data.toList (⟨#[38, 35, 120]⟩ : ByteArray).data.toList = false := by rw [hr]; simp [Lib.hasPrefix, List.isPrefixOf]
  have e2 : Lib.hasPrefix s.data.toList (⟨#[38, 35]⟩ : ByteArray).data.toList = false := by rw [hr]; simp [Lib.hasPrefix, List.isPrefixOf]
  have e3 : Lib.indexByte s.data.toList ((59 : Int).toNat.toUInt8) = 3 := by
    have : (59 : Int).toNat.toUInt8 = 59 := by decide
    rw [this, hr]; simp [Lib.indexByte]
  have e4 := hidx0 s 38 (by rw [hr]; rfl)
  have e5 := hcut1 s 3 (by omega) (by have := congrArg List.length hr; simp at this; omega)
  have e6 : (s.data.toList.take (3 : Int).toNat).drop 1 = [103, 116] := by rw [hr]; rfl
  rw [e6] at e5
  have HR : Hid (refS s.data.toList = (Utf8.encode 62, 4, 0)) := Lib.hid (by
    rw [hr]; simp [refS, words]; rfl)
  clear hr e6
  go_enter Tryz.func114, Tryz.ntmps114
  go_wp2_with (first
    | (go_at_call 99; refine (Tryz.strings_HasPrefix _ _ _).mono ?_; (first | rw [e1] | rw [e2]); rintro e w' ⟨rfl, rfl⟩)
    | (go_at_call 122; refine (Tryz.strings_IndexByte _ _ _).mono ?_; rw [e3]; rintro e w' ⟨rfl, rfl⟩)
    | (go_at_call 123; refine (named_1 _).mono ?_; rintro e w' ⟨rfl, rfl⟩))
  go_ret3
  exact ⟨ref_ret (x := (Utf8.encode 62, 4, 0)) HR.out.symm, rfl⟩

theorem Ref_word2 (s : ByteArray) (r : List UInt8) (hr : s.data.toList = [38, 97, 109, 112, 59] ++ r) (w : World) :
    Calls Tryz.prog 114 #[.string s] w fun e w' => e = .returned (refV (refS s.data.toList)) ∧ w' = w := by
  have e1 : Lib.hasPrefix s.data.toList (⟨#[38, 35, 120]⟩ : ByteArray).data.toList = false := by rw [hr]; simp [Lib.hasPrefix, List.isPrefixOf]
  have e2 : Lib.hasPrefix s.data.toList (⟨#[38, 35]⟩ : ByteArray).data.toList = false := by rw [hr]; simp [Lib.hasPrefix, List.isPrefixOf]
  have e3 : Lib.indexByte s.data.toList ((59 : Int).toNat.toUInt8) = 4 := by
    have : (59 : Int).toNat.toUInt8 = 59 := by decide
    rw [this, hr]; simp [Lib.indexByte]
  have e4 := hidx0 s 38 (by rw [hr]; rfl)
  have e5 := hcut1 s 4 (by omega) (by have := congrArg List.length hr; simp at this; omega)
  have e6 : (s.data.toList.take (4 : Int).toNat).drop 1 = [97, 109, 112] := by rw [hr]; rfl
  rw [e6] at e5
  have HR : Hid (refS s.data.toList = (Utf8.encode 38, 5, 0)) := Lib.hid (by
    rw [hr]; simp [refS, words]; rfl)
  clear hr e6
  go_enter Tryz.func114, Tryz.ntmps114
  go_wp2_with (first
    | (go_at_call 99; refine (Tryz.strings_HasPrefix _ _ _).mono ?_; (first | rw [e1] | rw [e2]); rintro e w' ⟨rfl, rfl⟩)
    | (go_at_call 122; refine (Tryz.strings_IndexByte _ _ _).mono ?_; rw [e3]; rintro e w' ⟨rfl, rfl⟩)
    | (go_at_call 123; refine (named_2 _).mono ?_; rintro e w' ⟨rfl, rfl⟩))
  go_ret3
  exact ⟨ref_ret (x := (Utf8.encode 38, 5, 0)) HR.out.symm, rfl⟩

theorem Ref_word3 (s : ByteArray) (r : List UInt8) (hr : s.data.toList = [38, 113, 117, 111, 116, 59] ++ r) (w : World) :
    Calls Tryz.prog 114 #[.string s] w fun e w' => e = .returned (refV (refS s.data.toList)) ∧ w' = w := by
  have e1 : Lib.hasPrefix s.data.toList (⟨#[38, 35, 120]⟩ : ByteArray).data.toList = false := by rw [hr]; simp [Lib.hasPrefix, List.isPrefixOf]
  have e2 : Lib.hasPrefix s.data.toList (⟨#[38, 35]⟩ : ByteArray).data.toList = false := by rw [hr]; simp [Lib.hasPrefix, List.isPrefixOf]
  have e3 : Lib.indexByte s.data.toList ((59 : Int).toNat.toUInt8) = 5 := by
    have : (59 : Int).toNat.toUInt8 = 59 := by decide
    rw [this, hr]; simp [Lib.indexByte]
  have e4 := hidx0 s 38 (by rw [hr]; rfl)
  have e5 := hcut1 s 5 (by omega) (by have := congrArg List.length hr; simp at this; omega)
  have e6 : (s.data.toList.take (5 : Int).toNat).drop 1 = [113, 117, 111, 116] := by rw [hr]; rfl
  rw [e6] at e5
  have HR : Hid (refS s.data.toList = (Utf8.encode 34, 6, 0)) := Lib.hid (by
    rw [hr]; simp [refS, words]; rfl)
  clear hr e6
  go_enter Tryz.func114, Tryz.ntmps114
  go_wp2_with (first
    | (go_at_call 99; refine (Tryz.strings_HasPrefix _ _ _).mono ?_; (first | rw [e1] | rw [e2]); rintro e w' ⟨rfl, rfl⟩)
    | (go_at_call 122; refine (Tryz.strings_IndexByte _ _ _).mono ?_; rw [e3]; rintro e w' ⟨rfl, rfl⟩)
    | (go_at_call 123; refine (named_3 _).mono ?_; rintro e w' ⟨rfl, rfl⟩))
  go_ret3
  exact ⟨ref_ret (x := (Utf8.encode 34, 6, 0)) HR.out.symm, rfl⟩

theorem Ref_word4 (s : ByteArray) (r : List UInt8) (hr : s.data.toList = [38, 97, 112, 111, 115, 59] ++ r) (w : World) :
    Calls Tryz.prog 114 #[.string s] w fun e w' => e = .returned (refV (refS s.data.toList)) ∧ w' = w := by
  have e1 : Lib.hasPrefix s.data.toList (⟨#[38, 35, 120]⟩ : ByteArray).data.toList = false := by rw [hr]; simp [Lib.hasPrefix, List.isPrefixOf]
  have e2 : Lib.hasPrefix s.data.toList (⟨#[38, 35]⟩ : ByteArray).data.toList = false := by rw [hr]; simp [Lib.hasPrefix, List.isPrefixOf]
  have e3 : Lib.indexByte s.data.toList ((59 : Int).toNat.toUInt8) = 5 := by
    have : (59 : Int).toNat.toUInt8 = 59 := by decide
    rw [this, hr]; simp [Lib.indexByte]
  have e4 := hidx0 s 38 (by rw [hr]; rfl)
  have e5 := hcut1 s 5 (by omega) (by have := congrArg List.length hr; simp at this; omega)
  have e6 : (s.data.toList.take (5 : Int).toNat).drop 1 = [97, 112, 111, 115] := by rw [hr]; rfl
  rw [e6] at e5
  have HR : Hid (refS s.data.toList = (Utf8.encode 39, 6, 0)) := Lib.hid (by
    rw [hr]; simp [refS, words]; rfl)
  clear hr e6
  go_enter Tryz.func114, Tryz.ntmps114
  go_wp2_with (first
    | (go_at_call 99; refine (Tryz.strings_HasPrefix _ _ _).mono ?_; (first | rw [e1] | rw [e2]); rintro e w' ⟨rfl, rfl⟩)
    | (go_at_call 122; refine (Tryz.strings_IndexByte _ _ _).mono ?_; rw [e3]; rintro e w' ⟨rfl, rfl⟩)
    | (go_at_call 123; refine (named_4 _).mono ?_; rintro e w' ⟨rfl, rfl⟩))
  go_ret3
  exact ⟨ref_ret (x := (Utf8.encode 39, 6, 0)) HR.out.symm, rfl⟩

theorem Ref_no (s : ByteArray) (hs : s.size ≤ 1000000) (w : World) (h : [38, 35].isPrefixOf s.data.toList = false) (hw : ∀ x ∈ words, x.1.isPrefixOf s.data.toList = false) :
    Calls Tryz.prog 114 #[.string s] w fun e w' => e = .returned (refV (refS s.data.toList)) ∧ w' = w := by
  have hx : [38, 35, 120].isPrefixOf s.data.toList = false := by
    rw [Bool.eq_false_iff] at h ⊢
    intro hp
    exact h (List.isPrefixOf_iff_prefix.2 (List.IsPrefix.trans ⟨[120], rfl⟩ (List.isPrefixOf_iff_prefix.1 hp)))
  have e1 : Lib.hasPrefix s.data.toList (⟨#[38, 35, 120]⟩ : ByteArray).data.toList = false := hx
  have e2 : Lib.hasPrefix s.data.toList (⟨#[38, 35]⟩ : ByteArray).data.toList = false := h
  have hfind : words.find? (fun w => w.1.isPrefixOf s.data.toList) = none := by
    rw [List.find?_eq_none]; intro x hx; rw [hw x hx]; simp
  obtain ⟨bn, hbn⟩ : ∃ b, b = words.any (fun w => s.data.toList.isPrefixOf w.1) := ⟨_, rfl⟩
  have hb := beginsNamed_any s
  rw [← hbn] at hb
  have HB := Lib.hid hb; clear hb
  have HR : Hid (refS s.data.toList = if bn then (⟨#[]⟩, 0, 1) else (⟨#[]⟩, 0, 2)) := Lib.hid (by
    unfold refS; rw [hx, h, hfind, ← hbn]; rfl)
  have hbnd : Hid (bn = _) := Lib.hid hbn
  clear hbn hfind
  obtain ⟨e, he⟩ : ∃ e, Lib.indexByte s.data.toList ((59 : Int).toNat.toUInt8) = e := ⟨_, rfl⟩
  have h59 : (59 : Int).toNat.toUInt8 = 59 := by decide
  by_cases hpos : 0 < e ∧ s.data.toList[0]? = some 38
  · obtain ⟨h0, h38⟩ := hpos
    have he' : Lib.indexByte s.data.toList 59 = e := by rw [← h59]; exact he
    have hle : e ≤ s.size := by
      have h1 := (List.getElem?_eq_some_iff.1 (idx_some he' (by omega))).1
      simp at h1; omega
    have e4 := hidx0 s 38 h38
    have e5 := hcut1 s e (by omega) hle
    have hN := named_no ((s.data.toList.take e.toNat).drop 1)
      (body_no he' h0 h38 (hw ([38, 108, 116, 59], 60) (by simp [words])))
      (body_no he' h0 h38 (hw ([38, 103, 116, 59], 62) (by simp [words])))
      (body_no he' h0 h38 (hw ([38, 97, 109, 112, 59], 38) (by simp [words])))
      (body_no he' h0 h38 (hw ([38, 113, 117, 111, 116, 59], 34) (by simp [words])))
      (body_no he' h0 h38 (hw ([38, 97, 112, 111, 115, 59], 39) (by simp [words])))
    obtain ⟨x, hx'⟩ : ∃ x, x = (s.data.toList.take e.toNat).drop 1 := ⟨_, rfl⟩
    rw [← hx'] at e5 hN
    have HN := Lib.hid hN; clear hN hx' he' h38 h hx hw
    have HE := Lib.hid he; clear he
    cases bn
    all_goals
      go_enter Tryz.func114, Tryz.ntmps114
      go_wp2_with (first
        | (go_at_call 99; refine (Tryz.strings_HasPrefix _ _ _).mono ?_; (first | rw [e1] | rw [e2]); rintro e w' ⟨rfl, rfl⟩)
        | (go_at_call 122; refine (Tryz.strings_IndexByte _ _ _).mono ?_; rw [HE.out]; rintro e w' ⟨rfl, rfl⟩)
        | (go_at_call 123; refine (HN.out _).mono ?_; rintro e w' ⟨rfl, rfl⟩)
        | (go_at_call 124; refine (HB.out _).mono ?_; rintro e w' ⟨rfl, rfl⟩))
      go_ret3
      exact ⟨ref_ret (x := (⟨#[]⟩, 0, _)) HR.out.symm, rfl⟩
  · have HE := Lib.hid he; clear he
    rcases Int.lt_or_le 0 e with h0 | h0
    · have h38 : s.data.toList[0]? ≠ some 38 := fun h => hpos ⟨h0, h⟩
      have he' : Lib.indexByte s.data.toList 59 = e := by rw [← h59]; exact HE.out
      have h1 := (List.getElem?_eq_some_iff.1 (idx_some he' (by omega))).1
      obtain ⟨c, hc⟩ : ∃ c, s.data.toList[0]? = some c := ⟨_, List.getElem?_eq_getElem (by omega)⟩
      have e4 := hidx0 s c hc
      have e6 : ((c.toNat : Int) == 38) = false := by
        rw [beq_eq_false_iff_ne]
        intro h
        exact h38 (by rw [hc, UInt8.toNat_inj.1 (show c.toNat = (38 : UInt8).toNat by rw [show (38 : UInt8).toNat = 38 from rfl]; omega)])
      clear hpos h38 hc h1 he' h hx hw
      cases bn
      all_goals
        go_enter Tryz.func114, Tryz.ntmps114
        go_wp2_with (first
          | (go_at_call 99; refine (Tryz.strings_HasPrefix _ _ _).mono ?_; (first | rw [e1] | rw [e2]); rintro e w' ⟨rfl, rfl⟩)
          | (go_at_call 122; refine (Tryz.strings_IndexByte _ _ _).mono ?_; rw [HE.out]; rintro e w' ⟨rfl, rfl⟩)
          | (go_at_call 124; refine (HB.out _).mono ?_; rintro e w' ⟨rfl, rfl⟩))
        go_ret3
        exact ⟨ref_ret (x := (⟨#[]⟩, 0, _)) HR.out.symm, rfl⟩
    · clear hpos h hx hw
      cases bn
      all_goals
        go_enter Tryz.func114, Tryz.ntmps114
        go_wp2_with (first
          | (go_at_call 99; refine (Tryz.strings_HasPrefix _ _ _).mono ?_; (first | rw [e1] | rw [e2]); rintro e w' ⟨rfl, rfl⟩)
          | (go_at_call 122; refine (Tryz.strings_IndexByte _ _ _).mono ?_; rw [HE.out]; rintro e w' ⟨rfl, rfl⟩)
          | (go_at_call 124; refine (HB.out _).mono ?_; rintro e w' ⟨rfl, rfl⟩))
        go_ret3
        exact ⟨ref_ret (x := (⟨#[]⟩, 0, _)) HR.out.symm, rfl⟩

/-- chars.Ref at every text of at most a million bytes -/
theorem Ref_any (s : ByteArray) (hs : s.size ≤ 1000000) (w : World) :
    Calls Tryz.prog 114 #[.string s] w fun e w' => e = .returned (refV (refS s.data.toList)) ∧ w' = w := by
  by_cases h : [38, 35].isPrefixOf s.data.toList = true
  · exact Ref_num s hs w h
  have h : [38, 35].isPrefixOf s.data.toList = false := Bool.eq_false_iff.2 h
  by_cases h0 : [38, 108, 116, 59].isPrefixOf s.data.toList = true
  · obtain ⟨r, hr⟩ := List.isPrefixOf_iff_prefix.1 h0
    exact Ref_word0 s r hr.symm w
  by_cases h1 : [38, 103, 116, 59].isPrefixOf s.data.toList = true
  · obtain ⟨r, hr⟩ := List.isPrefixOf_iff_prefix.1 h1
    exact Ref_word1 s r hr.symm w
  by_cases h2 : [38, 97, 109, 112, 59].isPrefixOf s.data.toList = true
  · obtain ⟨r, hr⟩ := List.isPrefixOf_iff_prefix.1 h2
    exact Ref_word2 s r hr.symm w
  by_cases h3 : [38, 113, 117, 111, 116, 59].isPrefixOf s.data.toList = true
  · obtain ⟨r, hr⟩ := List.isPrefixOf_iff_prefix.1 h3
    exact Ref_word3 s r hr.symm w
  by_cases h4 : [38, 97, 112, 111, 115, 59].isPrefixOf s.data.toList = true
  · obtain ⟨r, hr⟩ := List.isPrefixOf_iff_prefix.1 h4
    exact Ref_word4 s r hr.symm w
  refine Ref_no s hs w h (fun x hx => ?_)
  simp [words] at hx
  rcases hx with rfl | rfl | rfl | rfl | rfl
  · exact Bool.eq_false_iff.2 h0
  · exact Bool.eq_false_iff.2 h1
  · exact Bool.eq_false_iff.2 h2
  · exact Bool.eq_false_iff.2 h3
  · exact Bool.eq_false_iff.2 h4
end Go.Proofs.YtpbkidmdfibaoaaGreatDoor
