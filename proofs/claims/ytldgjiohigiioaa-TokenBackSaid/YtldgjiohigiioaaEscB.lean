/-
  Escape and the answer's Escape, for texts of at most 2000000 bytes. Own work.
-/
import Derived.Test.YtldgjiohigiioaaEsc
namespace Go.Proofs.Ytldgjiohigiioaa
set_option linter.unusedVariables false
set_option linter.unusedSimpArgs false
open Go.RowKit

set_option maxHeartbeats 2000000 in
/-- chars.Escape -/
theorem EscB (b : Bool) (s : ByteArray) (hs : s.size ≤ 2000000) (w : World) :
    Calls Try.prog 47 #[.string s, .bool b] w fun e w' => e = .returned (.string (str (escS b s.data.toList))) ∧ Below w.heap.size w w' := by
  have hlen : s.data.toList.length = s.size := by simp
  have HL := Lib.hid hlen; clear hlen
  go_enter Try.func47, Try.ntmps47
  go_wp2
  go_loopw [11] (fun i wr => ∃ k : Nat, k ≤ s.size ∧ i = .int .i64 k ∧ Bld w.heap.size w.heap.size (escS b (s.data.toList.take k)) wr ∧ Below w.heap.size w wr) (fun i _ => s.size - (intOf i).toNat)
  case atStart =>
    refine ⟨0, Nat.zero_le _, rfl, ?_, (Below.refl _ _).alloc (Nat.le_refl _) _⟩
    exact .inl ⟨Nat.le_refl _, _, heap_alloc_new w _, World.ownsRow_nil _ _ _ _, by simp [Value.ownBlock]⟩
  case round =>
    obtain ⟨k, hk, rfl, hbu, hb⟩ := hrel
    have hsz := hb.size
    have hl := escS_len b (s.data.toList.take k)
    have hl2 : (s.data.toList.take k).length ≤ k := by simp; omega
    by_cases hlt : k < s.size
    · obtain ⟨c, hc⟩ : ∃ c, s.data.toList[k]? = some c := ⟨_, List.getElem?_eq_getElem (by simpa using hlt)⟩
      have hix := hidx s k c hc
      have HT : Hid (escS b (s.data.toList.take (k + 1)) = escS b (s.data.toList.take k) ++ esc1 b c) := Lib.hid (by rw [take_snoc _ k c hc, escS_snoc])
      clear hc
      obtain ⟨acc, hacc⟩ : ∃ acc, acc = escS b (s.data.toList.take k) := ⟨_, rfl⟩
      rw [← hacc] at hbu hl
      have HA := Lib.hid hacc; clear hacc
      have HB := Lib.hid hbu; clear hbu
      cases hok : escOk b c with
      | true =>
        go_wp2_with fail
        refine (escaped_any b c _).mono ?_
        rintro e w1 ⟨⟨x, rfl, hx, hx6⟩, rfl⟩
        have HX := Lib.hid (hx hok); clear hx
        rw [hok]
        go_wp2_with fail
        refine (bu_writeString w.heap.size w.heap.size acc _ _ HB.out (by simp [ByteArray.size]; omega) hsz).mono ?_
        rintro e w2 ⟨rfl, hbu2, hb2⟩
        go_wp2
        go_roundw
        case rel => exact ⟨k + 1, by omega, by go_num, by rw [HT.out, ← HA.out, ← HX.out]; exact hbu2, hb.trans hb2⟩
        case measure => simp [intOf]; omega
      | false =>
        go_wp2_with fail
        refine (escaped_any b c _).mono ?_
        rintro e w1 ⟨⟨x, rfl, hx, hx6⟩, rfl⟩
        have HX := Lib.hid (esc1_no hok)
        clear hx
        rw [hok]
        go_wp2_with fail
        refine (bu_writeByte w.heap.size w.heap.size acc c _ HB.out (by omega) hsz).mono ?_
        rintro e w2 ⟨rfl, hbu2, hb2⟩
        go_wp2
        go_roundw
        case rel => exact ⟨k + 1, by omega, by go_num, by rw [HT.out, ← HA.out, HX.out]; exact hbu2, hb.trans hb2⟩
        case measure => simp [intOf]; omega
    · have HT : Hid (s.data.toList.take k = s.data.toList) := Lib.hid (List.take_of_length_le (by rw [HL.out]; omega))
      go_wp2_with fail
      refine (Try.Builder_String_any w.heap.size w.heap.size _ _ hbu hsz).mono ?_
      rintro e w2 ⟨rfl, hb2⟩
      go_wp2
      go_ret
      exact ⟨ret_str (by rw [HT.out]; rfl), hb.trans hb2⟩

set_option maxHeartbeats 8000000 in
theorem refEscB_true (s : ByteArray) (hs : s.size ≤ 2000000) (w : World) :
    Calls Try.prog 22 #[.string s, .bool true] w fun e w' => e = .returned (.string (str (escS true s.data.toList))) ∧ w' = w := by
  have hlen : s.data.toList.length = s.size := by simp
  have HL := Lib.hid hlen; clear hlen
  go_enter Try.func22, Try.ntmps22
  go_wp2
  go_loop [5, 6] (fun out i => ∃ k : Nat, k ≤ s.size ∧ i = .int .i64 k ∧ out = .string (str (escS true (s.data.toList.take k)))) (fun _ i => s.size - (intOf i).toNat)
  case atStart => exact ⟨0, Nat.zero_le _, rfl, rfl⟩
  case round =>
    obtain ⟨k, hk, rfl, rfl⟩ := hrel
    have hl := escS_len true (s.data.toList.take k)
    have hl2 : (s.data.toList.take k).length ≤ k := by simp; omega
    by_cases hlt : k < s.size
    · obtain ⟨c, hc⟩ : ∃ c, s.data.toList[k]? = some c := ⟨_, List.getElem?_eq_getElem (by simpa using hlt)⟩
      have hsl : ∀ w, (Instr.slice 9 (.string s) (some (.int .i64 k)) (some (.int .i64 ((k:Int)+1))) none).run Try.prog w = .ok (.string (str [c])) w := fun w => by
        rw [run_slice_string w 9 s _ _ _ _ Try.underlying9 (by omega) (by omega) (by omega), ← ext_one s k c hc]; rfl
      have HT : Hid (escS true (s.data.toList.take (k + 1)) = escS true (s.data.toList.take k) ++ esc1 true c) := Lib.hid (by rw [take_snoc _ k c hc, escS_snoc])
      clear hc
      obtain ⟨acc, hacc⟩ : ∃ acc, acc = escS true (s.data.toList.take k) := ⟨_, rfl⟩
      rw [← hacc] at hl
      have hsz : (str acc).size ≤ 6 * k := by rw [size_str]; omega
      rw [← hacc]
      have HA := Lib.hid hacc; clear hacc
      have h1 : (k : Int) + 1 ≤ s.size := by omega
      clear hl hl2
      have hc1 : (str [c]).size ≤ 1 := by rw [size_str]; simp
      go_wp2
      all_goals
        refine ⟨⟨k + 1, by omega, ?_⟩, by simp [intOf]; omega⟩
        refine ⟨by first | go_num | omega, ?_⟩
        try apply congrArg Value.string
        rw [HT.out, ← HA.out]
        first
          | rw [app_str]
          | rw [app_lit]
        simp [esc1, ← one_eq, *]
    · have HT : Hid (s.data.toList.take k = s.data.toList) := Lib.hid (List.take_of_length_le (by rw [HL.out]; omega))
      go_wp2
      go_ret
      exact ⟨ret_str (by rw [HT.out]), rfl⟩
set_option maxHeartbeats 8000000 in
theorem refEscB_false (s : ByteArray) (hs : s.size ≤ 2000000) (w : World) :
    Calls Try.prog 22 #[.string s, .bool false] w fun e w' => e = .returned (.string (str (escS false s.data.toList))) ∧ w' = w := by
  have hlen : s.data.toList.length = s.size := by simp
  have HL := Lib.hid hlen; clear hlen
  go_enter Try.func22, Try.ntmps22
  go_wp2
  go_loop [5, 6] (fun out i => ∃ k : Nat, k ≤ s.size ∧ i = .int .i64 k ∧ out = .string (str (escS false (s.data.toList.take k)))) (fun _ i => s.size - (intOf i).toNat)
  case atStart => exact ⟨0, Nat.zero_le _, rfl, rfl⟩
  case round =>
    obtain ⟨k, hk, rfl, rfl⟩ := hrel
    have hl := escS_len false (s.data.toList.take k)
    have hl2 : (s.data.toList.take k).length ≤ k := by simp; omega
    by_cases hlt : k < s.size
    · obtain ⟨c, hc⟩ : ∃ c, s.data.toList[k]? = some c := ⟨_, List.getElem?_eq_getElem (by simpa using hlt)⟩
      have hsl : ∀ w, (Instr.slice 9 (.string s) (some (.int .i64 k)) (some (.int .i64 ((k:Int)+1))) none).run Try.prog w = .ok (.string (str [c])) w := fun w => by
        rw [run_slice_string w 9 s _ _ _ _ Try.underlying9 (by omega) (by omega) (by omega), ← ext_one s k c hc]; rfl
      have HT : Hid (escS false (s.data.toList.take (k + 1)) = escS false (s.data.toList.take k) ++ esc1 false c) := Lib.hid (by rw [take_snoc _ k c hc, escS_snoc])
      clear hc
      obtain ⟨acc, hacc⟩ : ∃ acc, acc = escS false (s.data.toList.take k) := ⟨_, rfl⟩
      rw [← hacc] at hl
      have hsz : (str acc).size ≤ 6 * k := by rw [size_str]; omega
      rw [← hacc]
      have HA := Lib.hid hacc; clear hacc
      have h1 : (k : Int) + 1 ≤ s.size := by omega
      clear hl hl2
      have hc1 : (str [c]).size ≤ 1 := by rw [size_str]; simp
      go_wp2
      all_goals
        refine ⟨⟨k + 1, by omega, ?_⟩, by simp [intOf]; omega⟩
        refine ⟨by first | go_num | omega, ?_⟩
        try apply congrArg Value.string
        rw [HT.out, ← HA.out]
        first
          | rw [app_str]
          | rw [app_lit]
        simp [esc1, ← one_eq, *]
    · have HT : Hid (s.data.toList.take k = s.data.toList) := Lib.hid (List.take_of_length_le (by rw [HL.out]; omega))
      go_wp2
      go_ret
      exact ⟨ret_str (by rw [HT.out]), rfl⟩
/-- the answer's Escape -/
theorem refEscB (b : Bool) (s : ByteArray) (hs : s.size ≤ 2000000) (w : World) :
    Calls Try.prog 22 #[.string s, .bool b] w fun e w' => e = .returned (.string (str (escS b s.data.toList))) ∧ w' = w := by
  cases b
  · exact refEscB_false s hs w
  · exact refEscB_true s hs w
end Go.Proofs.Ytldgjiohigiioaa
