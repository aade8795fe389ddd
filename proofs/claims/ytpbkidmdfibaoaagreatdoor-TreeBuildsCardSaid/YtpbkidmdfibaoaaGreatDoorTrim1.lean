/-
  Layer 1: the contracts of chars.Name, chars.Trim and of their answers. Own work.
-/
import Derived.Test.YtpbkidmdfibaoaaGreatDoorTrimMath
import Derived.Test.YtpbkidmdfibaoaaGreatDoorBytes
import Derived.Test.YtpbkidmdfibaoaaGreatDoorShelf
namespace Go.Proofs.YtpbkidmdfibaoaaGreatDoor
set_option linter.unusedVariables false
set_option linter.unusedSimpArgs false
open Go.RowKit

theorem btidx (s : ByteArray) (k : Nat) (h : k < s.size) (w : World) : (Instr.index 9 (.string s) (.int .i64 (k : Int))).run Tryz.prog w = .ok (.int .u8 (bt s k : Int)) w := by
  rw [run_index_string w 9 s _ _ Tryz.underlying9, dif_pos ⟨by omega, by omega⟩]
  have h2 := bt_list s k h
  have h3 : s.data[k]'h = s.get! k := by
    have := (List.getElem?_eq_some_iff.1 h2).2
    simpa using this
  have h4 : s[(k : Int).toNat]'(by simpa using h) = s.get! k := h3
  rw [h4]
  rfl
theorem blank_is (n : Nat) : blankN n = isBlank (n : Int) := by
  unfold blankN isBlank
  rw [Bool.eq_iff_iff]
  simp only [Bool.or_eq_true, beq_iff_eq]
  omega

/-- how many bytes the name at the front has -/
def NameIs (s : ByteArray) (n : Nat) : Prop :=
  (n = 0 ∧ (s.size = 0 ∨ isFirst (bt s 0 : Int) = false)) ∨ (1 ≤ n ∧ n ≤ s.size ∧ isFirst (bt s 0 : Int) = true ∧ (∀ i, 1 ≤ i → i < n → isName (bt s i : Int) = true) ∧ (n = s.size ∨ isName (bt s n : Int) = false))
theorem name_one {s : ByteArray} {n m : Nat} (hn : NameIs s n) (hm : NameIs s m) : n = m := by
  rcases hn with ⟨rfl, h⟩ | ⟨h1, h2, h3, h4, h5⟩
  · rcases hm with ⟨rfl, g⟩ | ⟨g1, g2, g3, g4, g5⟩
    · rfl
    · rcases h with h | h
      · omega
      · rw [h] at g3; simp at g3
  · rcases hm with ⟨rfl, g⟩ | ⟨g1, g2, g3, g4, g5⟩
    · rcases g with g | g
      · omega
      · rw [g] at h3; simp at h3
    · rcases Nat.lt_trichotomy n m with h | h | h
      · rcases h5 with h5 | h5
        · omega
        · have := g4 n h1 h; rw [h5] at this; simp at this
      · exact h
      · rcases g5 with g5 | g5
        · omega
        · have := h4 m g1 h; rw [g5] at this; simp at this
def NamePost (s : ByteArray) (w : World) (e : Ending) (w' : World) : Prop := ∃ n : Nat, e = .returned (.int .i64 (n : Int)) ∧ NameIs s n ∧ w' = w
theorem first_name (c : Int) (h : isFirst c = true) : isName c = true := by unfold isName; rw [h]; rfl
theorem empty_is (s : ByteArray) : (s.toList == ([] : List UInt8)) = decide (s.size = 0) := by
  rw [Bool.eq_iff_iff]
  simp only [beq_iff_eq, decide_eq_true_eq]
  rw [ByteArray.toList_eq]
  constructor
  · intro h; have := congrArg List.length h; simpa using this
  · intro h; apply List.eq_nil_of_length_eq_zero; simpa using h
set_option maxHeartbeats 2000000 in
theorem Name_any (s : ByteArray) (hs : s.size ≤ 1000000) (w : World) : Calls Tryz.prog 52 #[.string s] w (NamePost s w) := by
  have hemp := empty_is s
  by_cases h0 : s.size = 0
  · rw [decide_eq_true h0] at hemp
    go_enter Tryz.func52, Tryz.ntmps52
    go_wp2
    all_goals (go_ret; exact ⟨0, rfl, .inl ⟨rfl, .inl h0⟩, rfl⟩)
  rw [decide_eq_false h0] at hemp
  have hi0 : ∀ w, (Instr.index 9 (.string s) (.int .i64 0)).run Tryz.prog w = .ok (.int .u8 (bt s 0 : Int)) w := btidx s 0 (by omega)
  have hf := fun w => IsFirst_any (bt s 0 : Int) w
  have h1s : (1 : Int) ≤ s.size := by omega
  cases hfb : isFirst (bt s 0 : Int)
  · rw [hfb] at hf
    have HF := Lib.hid hf
    have HB := Lib.hid hfb
    clear hf hfb
    go_enter Tryz.func52, Tryz.ntmps52
    go_wp2_with (go_at_call 76; refine (HF.out _).mono ?_; rintro e w' ⟨rfl, rfl⟩)
    all_goals (go_ret; exact ⟨0, rfl, .inl ⟨rfl, .inr HB.out⟩, rfl⟩)
  · rw [hfb] at hf
    have HF := Lib.hid hf
    have HB := Lib.hid hfb
    clear hf hfb
    go_enter Tryz.func52, Tryz.ntmps52
    go_wp2_with (go_at_call 76; refine (HF.out _).mono ?_; rintro e w' ⟨rfl, rfl⟩)
    go_loop [3] (fun i => ∃ k : Nat, 1 ≤ k ∧ k ≤ s.size ∧ i = .int .i64 k ∧ (∀ i, 1 ≤ i → i < k → isName (bt s i : Int) = true)) (fun i => s.size - (intOf i).toNat)
    case atStart => exact ⟨1, Nat.le_refl _, by omega, rfl, fun i a b => by omega⟩
    case round =>
      obtain ⟨k, hk1, hk, rfl, ha⟩ := hrel
      have HA := Lib.hid ha; clear ha
      by_cases hlt : k < s.size
      · have hik := btidx s k hlt
        have hn := fun w => IsName_any (bt s k : Int) w
        cases hnb : isName (bt s k : Int)
        · rw [hnb] at hn
          have HN := Lib.hid hn
          have HNB := Lib.hid hnb
          clear hn hnb
          go_wp2_with (go_at_call 77; refine (HN.out _).mono ?_; rintro e w' ⟨rfl, rfl⟩)
          go_ret
          exact ⟨k, rfl, .inr ⟨hk1, hk, HB.out, HA.out, .inr HNB.out⟩, rfl⟩
        · rw [hnb] at hn
          have HN := Lib.hid hn
          have HNB := Lib.hid hnb
          clear hn hnb
          go_wp2_with (go_at_call 77; refine (HN.out _).mono ?_; rintro e w' ⟨rfl, rfl⟩)
          refine ⟨⟨k + 1, by omega, by omega, by go_num, fun i a b => ?_⟩, by simp [intOf]; omega⟩
          by_cases hik2 : i = k
          · subst hik2; exact HNB.out
          · exact HA.out i a (by omega)
      · have hks : k = s.size := by omega
        have HK := Lib.hid hks; clear hks
        go_wp2
        go_ret
        exact ⟨k, rfl, .inr ⟨hk1, hk, HB.out, HA.out, .inl HK.out⟩, rfl⟩
theorem is_at (c k : Int) (b : Bool) (hk : 1 ≤ k) (hk2 : k ≤ 100) (hb : (clsI c / k % 2 == 1) = b) (w : World) :
    Calls Tryz.prog 48 #[.int .u8 c, .int .i64 k] w fun e w' => e = .returned (.bool b) ∧ w' = w := by
  rw [← hb]; exact Is_any c k w hk hk2
set_option maxHeartbeats 2000000 in
theorem refName_any (s : ByteArray) (hs : s.size ≤ 1000000) (w : World) : Calls Tryz.prog 78 #[.string s] w (NamePost s w) := by
  go_enter Tryz.func78, Tryz.ntmps78
  go_wp2
  go_loop [3, 4] (fun n i => ∃ k : Nat, k ≤ s.size ∧ i = .int .i64 k ∧ n = .int .i64 k ∧ (0 < k → isFirst (bt s 0 : Int) = true) ∧ (∀ i, 1 ≤ i → i < k → isName (bt s i : Int) = true)) (fun _ i => s.size - (intOf i).toNat)
  case atStart => exact ⟨0, Nat.zero_le _, rfl, rfl, fun h => by omega, fun i a b => by omega⟩
  case round =>
    obtain ⟨k, hk, rfl, rfl, hf0, ha⟩ := hrel
    have HA := Lib.hid ha; clear ha
    have HF0 := Lib.hid hf0; clear hf0
    by_cases hlt : k < s.size
    · have hik := btidx s k hlt
      have hi0 : ∀ w, (Instr.index 9 (.string s) (.int .i64 0)).run Tryz.prog w = .ok (.int .u8 (bt s 0 : Int)) w := btidx s 0 (by omega)
      have hl : (k : Int) < s.size := by omega
      have h0l : (0 : Int) < s.size := by omega
      have hn := fun w => is_at (bt s k : Int) 8 (isName (bt s k : Int)) (by omega) (by omega) (cls_all _).2.2.2.1 w
      have hf := fun w => is_at (bt s 0 : Int) 4 (isFirst (bt s 0 : Int)) (by omega) (by omega) (cls_all _).2.2.1 w
      by_cases hk0 : k = 0
      · subst hk0
        cases hfb : isFirst (bt s 0 : Int)
        · rw [hfb] at hf
          have HB := Lib.hid hfb
          cases hnb : isName (bt s 0 : Int)
          all_goals
            rw [hnb] at hn
            have HN := Lib.hid hn
            have HF := Lib.hid hf
            clear hn hf hnb hfb
            go_wp2_with (first | (go_at_call 48; with_reducible refine (HN.out _).mono ?_; rintro e w' ⟨rfl, rfl⟩) | (go_at_call 48; with_reducible refine (HF.out _).mono ?_; rintro e w' ⟨rfl, rfl⟩))
            go_ret
            exact ⟨0, rfl, .inl ⟨rfl, .inr HB.out⟩, rfl⟩
        · have hnb := first_name _ hfb
          rw [hfb] at hf
          rw [hnb] at hn
          have HN := Lib.hid hn
          have HF := Lib.hid hf
          have HB := Lib.hid hfb
          clear hn hf hnb hfb
          go_wp2_with (first | (go_at_call 48; with_reducible refine (HN.out _).mono ?_; rintro e w' ⟨rfl, rfl⟩) | (go_at_call 48; with_reducible refine (HF.out _).mono ?_; rintro e w' ⟨rfl, rfl⟩))
          exact ⟨⟨1, by omega, rfl, rfl, fun _ => (by first | exact HB.out | trivial), fun i a b => by omega⟩, by simp [intOf]; omega⟩
      · have hk1 : (1 : Int) ≤ k := by omega
        have hke : ((k : Int) == 0) = false := by simp; omega
        cases hnb : isName (bt s k : Int)
        · rw [hnb] at hn
          have HN := Lib.hid hn
          have HNB := Lib.hid hnb
          clear hn hf hnb
          go_wp2_with (go_at_call 48; with_reducible refine (HN.out _).mono ?_; rintro e w' ⟨rfl, rfl⟩)
          go_ret
          exact ⟨k, rfl, .inr ⟨by omega, hk, HF0.out (by omega), HA.out, .inr HNB.out⟩, rfl⟩
        · rw [hnb] at hn
          have HN := Lib.hid hn
          have HNB := Lib.hid hnb
          clear hn hf hnb
          go_wp2_with (go_at_call 48; with_reducible refine (HN.out _).mono ?_; rintro e w' ⟨rfl, rfl⟩)
          refine ⟨⟨k + 1, by omega, by go_num, by go_num, fun _ => HF0.out (by omega), fun i a b => ?_⟩, by simp [intOf]; omega⟩
          by_cases hik2 : i = k
          · subst hik2; exact HNB.out
          · exact HA.out i a (by omega)
    · have hks : k = s.size := by omega
      have HK := Lib.hid hks; clear hks
      go_wp2
      go_ret
      refine ⟨k, rfl, ?_, rfl⟩
      by_cases hk0 : k = 0
      · exact .inl ⟨hk0, .inl (by rw [← HK.out]; exact hk0)⟩
      · exact .inr ⟨by omega, hk, HF0.out (by omega), HA.out, .inl HK.out⟩

set_option maxHeartbeats 1000000 in
theorem trim_pred (w : World) : PredAt Tryz.prog 87 #[] encR blankN w := fun W r _ => by
  unfold FnGives
  have hb := fun W => IsBlank_any (r : Int) W
  rw [← blank_is] at hb
  by_cases h1 : r < 128
  · have z1 : (r : Int) < 128 := by omega
    have z2 : (0 : Int) ≤ r := by omega
    have HB := Lib.hid hb; clear hb
    go_enter Tryz.func87, Tryz.ntmps87
    go_wp2_with (go_at_call 88; refine (HB.out _).mono ?_; rintro e w' ⟨rfl, rfl⟩)
    go_ret
    exact ⟨rfl, 0, rfl⟩
  · have z1 : (r : Int) < 128 ↔ r < 128 := by omega
    have hf : blankN r = false := by rw [Bool.eq_false_iff]; intro h; exact h1 (blank_low h)
    have HF := Lib.hid hf
    clear hb hf
    go_enter Tryz.func87, Tryz.ntmps87
    go_wp2
    go_ret
    exact ⟨by rw [HF.out]; rfl, 0, rfl⟩
set_option maxHeartbeats 1000000 in
theorem Trim_any (s : ByteArray) (hs : s.size ≤ 9223372036854775807) (w : World) (hT : Lib.Utf8Tabs 1 2 w) :
    Calls Tryz.prog 58 #[.string s] w fun e w' => e = .returned (.string (Lib.trimF blankN s)) ∧ Below w.heap.size w w' := by
  have hC := Lib.hid (Tryz.strings_TrimFunc 87 #[] (enters_of Tryz.func87 (by kernel_rfl) rfl) _ s w hs hT (trim_pred w))
  go_enter Tryz.func58, Tryz.ntmps58
  go_wp2_with (go_at_call 86; refine hC.out.mono ?_; rintro e w' ⟨rfl, hb⟩)
  go_ret
  exact ⟨rfl, hb⟩
def TrimPost (s : ByteArray) (w : World) (e : Ending) (w' : World) : Prop := ∃ r, e = .returned (.string r) ∧ TrimIs s r ∧ w' = w
set_option maxHeartbeats 2000000 in
theorem refTrim_any (s : ByteArray) (hs : s.size ≤ 1000000) (w : World) : Calls Tryz.prog 24 #[.string s] w (TrimPost s w) := by
  go_enter Tryz.func24, Tryz.ntmps24
  go_wp2
  go_loop [3] (fun i => ∃ k : Nat, k ≤ s.size ∧ i = .int .i64 k ∧ (∀ i, i < k → blankAt s i = true)) (fun i => s.size - (intOf i).toNat)
  case atStart => exact ⟨0, Nat.zero_le _, rfl, fun i a => by omega⟩
  case round =>
    obtain ⟨k, hk, rfl, ha⟩ := hrel
    have HA := Lib.hid ha; clear ha
    have key : ∀ b : Bool, (k < s.size → blankAt s k = b) → (b = true → k < s.size) → True := fun _ _ _ => trivial
    by_cases hgo : k < s.size ∧ blankAt s k = true
    · obtain ⟨hlt, hbl⟩ := hgo
      have hik := btidx s k hlt
      have hb := fun w => is_at (bt s k : Int) 1 true (by omega) (by omega) ((cls_all _).1.trans ((blank_is _).symm.trans hbl)) w
      have HB := Lib.hid hb
      have HBL := Lib.hid hbl
      have hl : (k : Int) < s.size := by omega
      clear hb hbl key
      go_wp2_with (go_at_call 48; with_reducible refine (HB.out _).mono ?_; rintro e w' ⟨rfl, rfl⟩)
      refine ⟨⟨k + 1, by omega, by go_num, fun i a => ?_⟩, by simp [intOf]; omega⟩
      by_cases hik2 : i = k
      · subst hik2; exact HBL.out
      · exact HA.out i (by omega)
    · clear key
      have hstop : k = s.size ∨ (k < s.size ∧ blankAt s k = false) := by
        by_cases h : k < s.size
        · right
          refine ⟨h, ?_⟩
          rw [Bool.eq_false_iff]; exact fun hh => hgo ⟨h, hh⟩
        · left; omega
      clear hgo
      have HS := Lib.hid hstop
      rcases hstop with hks | ⟨hlt, hbl⟩
      all_goals first
        | (have hkz : (s.size : Int) ≤ k := by omega
           clear hks
           go_wp2)
        | (have hik := btidx s k hlt
           have hb := fun w => is_at (bt s k : Int) 1 false (by omega) (by omega) ((cls_all _).1.trans ((blank_is _).symm.trans hbl)) w
           have HB := Lib.hid hb
           have hl : (k : Int) < s.size := by omega
           clear hb hbl
           go_wp2_with (go_at_call 48; with_reducible refine (HB.out _).mono ?_; rintro e w' ⟨rfl, rfl⟩))
      all_goals
        go_loop [4] (fun i => ∃ t : Nat, k ≤ t ∧ t ≤ s.size ∧ i = .int .i64 t ∧ (∀ j, t ≤ j → j < s.size → blankAt s j = true)) (fun i => (intOf i).toNat)
        case atStart => exact ⟨s.size, hk, Nat.le_refl _, rfl, fun j a b => by omega⟩
        case round =>
          obtain ⟨t, ht1, ht2, rfl, hd⟩ := hrel
          have HD := Lib.hid hd; clear hd
          by_cases hgo : k < t ∧ blankAt s (t - 1) = true
          · obtain ⟨hlt2, hbl2⟩ := hgo
            have hit := btidx s (t - 1) (by omega)
            rw [show ((t - 1 : Nat) : Int) = (t : Int) - 1 by omega] at hit
            have hb2 := fun w => is_at (bt s (t - 1) : Int) 1 true (by omega) (by omega) ((cls_all _).1.trans ((blank_is _).symm.trans hbl2)) w
            have HB2 := Lib.hid hb2
            have HBL2 := Lib.hid hbl2
            have hl2 : (k : Int) < t := by omega
            have hl3 : (1 : Int) ≤ t := by omega
            have hl4 : (t : Int) ≤ s.size := by omega
            clear hb2 hbl2
            go_wp2_with (go_at_call 48; with_reducible refine (HB2.out _).mono ?_; rintro e w' ⟨rfl, rfl⟩)
            refine ⟨⟨t - 1, by omega, by omega, by first | go_num | (congr 1; omega), fun j a b => ?_⟩, by simp [intOf]; omega⟩
            by_cases hjt : j = t - 1
            · subst hjt; exact HBL2.out
            · exact HD.out j (by omega) b
          · by_cases hlt2 : k < t
            · have hbl2 : blankAt s (t - 1) = false := by
                rw [Bool.eq_false_iff]; exact fun hh => hgo ⟨hlt2, hh⟩
              clear hgo
              have hit := btidx s (t - 1) (by omega)
              rw [show ((t - 1 : Nat) : Int) = (t : Int) - 1 by omega] at hit
              have hb2 := fun w => is_at (bt s (t - 1) : Int) 1 false (by omega) (by omega) ((cls_all _).1.trans ((blank_is _).symm.trans hbl2)) w
              have HB2 := Lib.hid hb2
              have HBL2 := Lib.hid hbl2
              have hl2 : (k : Int) < t := by omega
              have hl3 : (1 : Int) ≤ t := by omega
              have hl4 : (t : Int) ≤ s.size := by omega
              clear hb2 hbl2
              go_wp2_with (go_at_call 48; with_reducible refine (HB2.out _).mono ?_; rintro e w' ⟨rfl, rfl⟩)
              go_ret
              refine ⟨_, rfl, .inl ⟨k, t, hlt2, ht2, rfl, HA.out, ?_, HD.out, HBL2.out⟩, rfl⟩
              rcases HS.out with h | h
              · omega
              · exact h.2
            · have hkt : k = t := by omega
              clear hgo hlt2
              subst hkt
              have hl4 : (k : Int) ≤ s.size := by omega
              go_wp2
              go_ret
              refine ⟨_, rfl, .inr ⟨?_, ?_⟩, rfl⟩
              · first | rfl | (rw [ext_str, List.drop_of_length_le (by simp)]; rfl)
              · intro i hi
                rcases HS.out with h | h
                · exact HA.out i (by omega)
                · have := HD.out k (Nat.le_refl _) h.1
                  rw [h.2] at this; simp at this
end Go.Proofs.YtpbkidmdfibaoaaGreatDoor
