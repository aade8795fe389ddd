/-
  Layer 2: the name with which a text begins (chars.Name, and the answer's Name). Own work.
-/
import Derived.Test.YtldgjiohigiioaaNum2
import Derived.Test.YtldgjiohigiioaaShelf
namespace Go.Proofs.Ytldgjiohigiioaa
set_option linter.unusedVariables false
set_option linter.unusedSimpArgs false
open Go.RowKit

def bt (s : ByteArray) (i : Nat) : Nat := (s.get! i).toNat
theorem bt_list (s : ByteArray) (i : Nat) (h : i < s.size) : s.data.toList[i]? = some (s.get! i) := by
  have h2 : i < s.data.size := h
  rw [Array.getElem?_toList, Array.getElem?_eq_getElem h2]
  congr 1
  show s.data[i] = s.data[i]!
  rw [getElem!_pos s.data i h2]
theorem btidx (s : ByteArray) (k : Nat) (h : k < s.size) (w : World) : (Instr.index 9 (.string s) (.int .i64 (k : Int))).run Try.prog w = .ok (.int .u8 (bt s k : Int)) w := by
  rw [run_index_string w 9 s _ _ Try.underlying9, dif_pos ⟨by omega, by omega⟩]
  have h2 := bt_list s k h
  have h3 : s.data[k]'h = s.get! k := by
    have := (List.getElem?_eq_some_iff.1 h2).2
    simpa using this
  have h4 : s[(k : Int).toNat]'(by simpa using h) = s.get! k := h3
  rw [h4]
  rfl
/-- how many bytes the name at the front has -/
def NameIs (s : ByteArray) (n : Nat) : Prop :=
  (n = 0 ∧ (s.size = 0 ∨ isFirst (bt s 0 : Int) = false)) ∨ (1 ≤ n ∧ n ≤ s.size ∧ isFirst (bt s 0 : Int) = true ∧ (∀ i, 1 ≤ i → i < n → isName (bt s i : Int) = true) ∧ (n = s.size ∨ isName (bt s n : Int) = false))
theorem name_one {s : ByteArray} {n m : Nat} (hn : NameIs s n) (hm : NameIs s m) : n = m := by
  rcases hn with ⟨rfl, h⟩ | ⟨h1, h2, h3, h4, h5⟩
  · rcases hm with ⟨rfl, g⟩ | ⟨g1, g2, g3, g4, g5⟩
    · rfl
    · rcases h with h | h
      · omega
      · rw [h] at g3; simp at g3
  · rcases hm with ⟨rfl, g⟩ | ⟨g1, g2, g3, g4, g5⟩
    · rcases g with g | g
      · omega
      · rw [g] at h3; simp at h3
    · rcases Nat.lt_trichotomy n m with h | h | h
      · rcases h5 with h5 | h5
        · omega
        · have := g4 n h1 h; rw [h5] at this; simp at this
      · exact h
      · rcases g5 with g5 | g5
        · omega
        · have := h4 m g1 h; rw [g5] at this; simp at this
def NamePost (s : ByteArray) (w : World) (e : Ending) (w' : World) : Prop := ∃ n : Nat, e = .returned (.int .i64 (n : Int)) ∧ NameIs s n ∧ w' = w
theorem first_name (c : Int) (h : isFirst c = true) : isName c = true := by unfold isName; rw [h]; rfl
theorem empty_is (s : ByteArray) : (s.toList == ([] : List UInt8)) = decide (s.size = 0) := by
  rw [Bool.eq_iff_iff]
  simp only [beq_iff_eq, decide_eq_true_eq]
  rw [ByteArray.toList_eq]
  constructor
  · intro h; have := congrArg List.length h; simpa using this
  · intro h; apply List.eq_nil_of_length_eq_zero; simpa using h
set_option maxHeartbeats 2000000 in
theorem Name_any (s : ByteArray) (hs : s.size ≤ 1000000) (w : World) : Calls Try.prog 86 #[.string s] w (NamePost s w) := by
  have hemp := empty_is s
  by_cases h0 : s.size = 0
  · rw [decide_eq_true h0] at hemp
    go_enter Try.func86, Try.ntmps86
    go_wp2
    all_goals (go_ret; exact ⟨0, rfl, .inl ⟨rfl, .inl h0⟩, rfl⟩)
  rw [decide_eq_false h0] at hemp
  have hi0 : ∀ w, (Instr.index 9 (.string s) (.int .i64 0)).run Try.prog w = .ok (.int .u8 (bt s 0 : Int)) w := btidx s 0 (by omega)
  have hf := fun w => IsFirst_any (bt s 0 : Int) w
  have h1s : (1 : Int) ≤ s.size := by omega
  cases hfb : isFirst (bt s 0 : Int)
  · rw [hfb] at hf
    have HF := Lib.hid hf
    have HB := Lib.hid hfb
    clear hf hfb
    go_enter Try.func86, Try.ntmps86
    go_wp2_with (go_at_call 93; refine (HF.out _).mono ?_; rintro e w' ⟨rfl, rfl⟩)
    all_goals (go_ret; exact ⟨0, rfl, .inl ⟨rfl, .inr HB.out⟩, rfl⟩)
  · rw [hfb] at hf
    have HF := Lib.hid hf
    have HB := Lib.hid hfb
    clear hf hfb
    go_enter Try.func86, Try.ntmps86
    go_wp2_with (go_at_call 93; refine (HF.out _).mono ?_; rintro e w' ⟨rfl, rfl⟩)
    go_loop [3] (fun i => ∃ k : Nat, 1 ≤ k ∧ k ≤ s.size ∧ i = .int .i64 k ∧ (∀ i, 1 ≤ i → i < k → isName (bt s i : Int) = true)) (fun i => s.size - (intOf i).toNat)
    case atStart => exact ⟨1, Nat.le_refl _, by omega, rfl, fun i a b => by omega⟩
    case round =>
      obtain ⟨k, hk1, hk, rfl, ha⟩ := hrel
      have HA := Lib.hid ha; clear ha
      by_cases hlt : k < s.size
      · have hik := btidx s k hlt
        have hn := fun w => IsName_any (bt s k : Int) w
        cases hnb : isName (bt s k : Int)
        · rw [hnb] at hn
          have HN := Lib.hid hn
          have HNB := Lib.hid hnb
          clear hn hnb
          go_wp2_with (go_at_call 94; refine (HN.out _).mono ?_; rintro e w' ⟨rfl, rfl⟩)
          go_ret
          exact ⟨k, rfl, .inr ⟨hk1, hk, HB.out, HA.out, .inr HNB.out⟩, rfl⟩
        · rw [hnb] at hn
          have HN := Lib.hid hn
          have HNB := Lib.hid hnb
          clear hn hnb
          go_wp2_with (go_at_call 94; refine (HN.out _).mono ?_; rintro e w' ⟨rfl, rfl⟩)
          refine ⟨⟨k + 1, by omega, by omega, by go_num, fun i a b => ?_⟩, by simp [intOf]; omega⟩
          by_cases hik2 : i = k
          · subst hik2; exact HNB.out
          · exact HA.out i a (by omega)
      · have hks : k = s.size := by omega
        have HK := Lib.hid hks; clear hks
        go_wp2
        go_ret
        exact ⟨k, rfl, .inr ⟨hk1, hk, HB.out, HA.out, .inl HK.out⟩, rfl⟩
theorem is_at (c k : Int) (b : Bool) (hk : 1 ≤ k) (hk2 : k ≤ 100) (hb : (clsI c / k % 2 == 1) = b) (w : World) :
    Calls Try.prog 21 #[.int .u8 c, .int .i64 k] w fun e w' => e = .returned (.bool b) ∧ w' = w := by
  rw [← hb]; exact Is_any c k w hk hk2
set_option maxHeartbeats 2000000 in
theorem refName_any (s : ByteArray) (hs : s.size ≤ 1000000) (w : World) : Calls Try.prog 20 #[.string s] w (NamePost s w) := by
  go_enter Try.func20, Try.ntmps20
  go_wp2
  go_loop [3, 4] (fun n i => ∃ k : Nat, k ≤ s.size ∧ i = .int .i64 k ∧ n = .int .i64 k ∧ (0 < k → isFirst (bt s 0 : Int) = true) ∧ (∀ i, 1 ≤ i → i < k → isName (bt s i : Int) = true)) (fun _ i => s.size - (intOf i).toNat)
  case atStart => exact ⟨0, Nat.zero_le _, rfl, rfl, fun h => by omega, fun i a b => by omega⟩
  case round =>
    obtain ⟨k, hk, rfl, rfl, hf0, ha⟩ := hrel
    have HA := Lib.hid ha; clear ha
    have HF0 := Lib.hid hf0; clear hf0
    by_cases hlt : k < s.size
    · have hik := btidx s k hlt
      have hi0 : ∀ w, (Instr.index 9 (.string s) (.int .i64 0)).run Try.prog w = .ok (.int .u8 (bt s 0 : Int)) w := btidx s 0 (by omega)
      have hl : (k : Int) < s.size := by omega
      have h0l : (0 : Int) < s.size := by omega
      have hn := fun w => is_at (bt s k : Int) 8 (isName (bt s k : Int)) (by omega) (by omega) (cls_all _).2.2.2.1 w
      have hf := fun w => is_at (bt s 0 : Int) 4 (isFirst (bt s 0 : Int)) (by omega) (by omega) (cls_all _).2.2.1 w
      by_cases hk0 : k = 0
      · subst hk0
        cases hfb : isFirst (bt s 0 : Int)
        · rw [hfb] at hf
          have HB := Lib.hid hfb
          cases hnb : isName (bt s 0 : Int)
          all_goals
            rw [hnb] at hn
            have HN := Lib.hid hn
            have HF := Lib.hid hf
            clear hn hf hnb hfb
            go_wp2_with (first | (go_at_call 21; with_reducible refine (HN.out _).mono ?_; rintro e w' ⟨rfl, rfl⟩) | (go_at_call 21; with_reducible refine (HF.out _).mono ?_; rintro e w' ⟨rfl, rfl⟩))
            go_ret
            exact ⟨0, rfl, .inl ⟨rfl, .inr HB.out⟩, rfl⟩
        · have hnb := first_name _ hfb
          rw [hfb] at hf
          rw [hnb] at hn
          have HN := Lib.hid hn
          have HF := Lib.hid hf
          have HB := Lib.hid hfb
          clear hn hf hnb hfb
          go_wp2_with (first | (go_at_call 21; with_reducible refine (HN.out _).mono ?_; rintro e w' ⟨rfl, rfl⟩) | (go_at_call 21; with_reducible refine (HF.out _).mono ?_; rintro e w' ⟨rfl, rfl⟩))
          exact ⟨⟨1, by omega, rfl, rfl, fun _ => (by first | exact HB.out | trivial), fun i a b => by omega⟩, by simp [intOf]; omega⟩
      · have hk1 : (1 : Int) ≤ k := by omega
        have hke : ((k : Int) == 0) = false := by simp; omega
        cases hnb : isName (bt s k : Int)
        · rw [hnb] at hn
          have HN := Lib.hid hn
          have HNB := Lib.hid hnb
          clear hn hf hnb
          go_wp2_with (go_at_call 21; with_reducible refine (HN.out _).mono ?_; rintro e w' ⟨rfl, rfl⟩)
          go_ret
          exact ⟨k, rfl, .inr ⟨by omega, hk, HF0.out (by omega), HA.out, .inr HNB.out⟩, rfl⟩
        · rw [hnb] at hn
          have HN := Lib.hid hn
          have HNB := Lib.hid hnb
          clear hn hf hnb
          go_wp2_with (go_at_call 21; with_reducible refine (HN.out _).mono ?_; rintro e w' ⟨rfl, rfl⟩)
          refine ⟨⟨k + 1, by omega, by go_num, by go_num, fun _ => HF0.out (by omega), fun i a b => ?_⟩, by simp [intOf]; omega⟩
          by_cases hik2 : i = k
          · subst hik2; exact HNB.out
          · exact HA.out i a (by omega)
    · have hks : k = s.size := by omega
      have HK := Lib.hid hks; clear hks
      go_wp2
      go_ret
      refine ⟨k, rfl, ?_, rfl⟩
      by_cases hk0 : k = 0
      · exact .inl ⟨hk0, .inl (by rw [← HK.out]; exact hk0)⟩
      · exact .inr ⟨by omega, hk, HF0.out (by omega), HA.out, .inl HK.out⟩

end Go.Proofs.Ytldgjiohigiioaa
