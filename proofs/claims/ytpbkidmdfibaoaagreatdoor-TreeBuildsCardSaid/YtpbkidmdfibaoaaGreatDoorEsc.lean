/-
  Layer 1: escapes: what they come to (plain), and the contracts of chars.escaped, chars.Escape and of its answer. Own work.
-/
import Derived.Test.YtpbkidmdfibaoaaGreatDoorNum2
import Derived.Test.YtpbkidmdfibaoaaGreatDoorBuilder
namespace Go.Proofs.YtpbkidmdfibaoaaGreatDoor
set_option linter.unusedVariables false
set_option linter.unusedSimpArgs false
open Go.RowKit

/-- what stands for a byte in a text, in an attribute's value -/
def esc1 (b : Bool) (c : UInt8) : List UInt8 :=
  if c == 38 then [38, 97, 109, 112, 59]
  else if c == 60 then [38, 108, 116, 59]
  else if c == 62 then [38, 103, 116, 59]
  else if c == 13 then [38, 35, 49, 51, 59]
  else if b && c == 34 then [38, 113, 117, 111, 116, 59]
  else if b && c == 9 then [38, 35, 57, 59]
  else if b && c == 10 then [38, 35, 49, 48, 59]
  else [c]
def escOk (b : Bool) (c : UInt8) : Bool := c == 38 || c == 60 || c == 62 || c == 13 || b && (c == 34 || c == 9 || c == 10)
def escS (b : Bool) (l : List UInt8) : List UInt8 := l.flatMap (esc1 b)
theorem esc1_no {b : Bool} {c : UInt8} (h : escOk b c = false) : esc1 b c = [c] := by
  simp [escOk] at h
  obtain ⟨⟨⟨⟨h1, h2⟩, h3⟩, h4⟩, h5⟩ := h
  cases b
  · simp [esc1, h1, h2, h3, h4]
  · simp at h5
    simp [esc1, h1, h2, h3, h4, h5]
theorem esc1_len (b : Bool) (c : UInt8) : (esc1 b c).length ≤ 6 := by
  unfold esc1
  repeat' split
  all_goals simp
theorem escS_snoc (b : Bool) (l : List UInt8) (c : UInt8) : escS b (l ++ [c]) = escS b l ++ esc1 b c := by simp [escS]
theorem escS_len (b : Bool) (l : List UInt8) : (escS b l).length ≤ 6 * l.length := by
  induction l with
  | nil => simp [escS]
  | cons c l ih =>
    have := esc1_len b c
    simp only [escS, List.flatMap_cons, List.length_append, List.length_cons] at ih ⊢
    omega

def Escd (b : Bool) (c : UInt8) (e : Ending) : Prop := ∃ x : List UInt8, e = .returned (.tuple #[.string ⟨x.toArray⟩, .bool (escOk b c)]) ∧ (escOk b c = true → x = esc1 b c) ∧ x.length ≤ 6
theorem escaped_38 (b : Bool) (w : World) : Calls Tryz.prog 94 #[.int .u8 38, .bool b] w fun e w' => Escd b 38 e ∧ w' = w := by
  go_enter Tryz.func94, Tryz.ntmps94
  go_wp2
  go_ret2
  exact ⟨⟨[38, 97, 109, 112, 59], by cases b <;> rfl, by cases b <;> decide, by decide⟩, rfl⟩
theorem escaped_60 (b : Bool) (w : World) : Calls Tryz.prog 94 #[.int .u8 60, .bool b] w fun e w' => Escd b 60 e ∧ w' = w := by
  go_enter Tryz.func94, Tryz.ntmps94
  go_wp2
  go_ret2
  exact ⟨⟨[38, 108, 116, 59], by cases b <;> rfl, by cases b <;> decide, by decide⟩, rfl⟩
theorem escaped_62 (b : Bool) (w : World) : Calls Tryz.prog 94 #[.int .u8 62, .bool b] w fun e w' => Escd b 62 e ∧ w' = w := by
  go_enter Tryz.func94, Tryz.ntmps94
  go_wp2
  go_ret2
  exact ⟨⟨[38, 103, 116, 59], by cases b <;> rfl, by cases b <;> decide, by decide⟩, rfl⟩
theorem escaped_13 (b : Bool) (w : World) : Calls Tryz.prog 94 #[.int .u8 13, .bool b] w fun e w' => Escd b 13 e ∧ w' = w := by
  go_enter Tryz.func94, Tryz.ntmps94
  go_wp2
  go_ret2
  exact ⟨⟨[38, 35, 49, 51, 59], by cases b <;> rfl, by cases b <;> decide, by decide⟩, rfl⟩
theorem escaped_34 (b : Bool) (w : World) : Calls Tryz.prog 94 #[.int .u8 34, .bool b] w fun e w' => Escd b 34 e ∧ w' = w := by
  go_enter Tryz.func94, Tryz.ntmps94
  go_wp2
  go_ret2
  exact ⟨⟨[38, 113, 117, 111, 116, 59], by cases b <;> rfl, by cases b <;> decide, by decide⟩, rfl⟩
theorem escaped_9 (b : Bool) (w : World) : Calls Tryz.prog 94 #[.int .u8 9, .bool b] w fun e w' => Escd b 9 e ∧ w' = w := by
  go_enter Tryz.func94, Tryz.ntmps94
  go_wp2
  go_ret2
  exact ⟨⟨[38, 35, 57, 59], by cases b <;> rfl, by cases b <;> decide, by decide⟩, rfl⟩
theorem escaped_10 (b : Bool) (w : World) : Calls Tryz.prog 94 #[.int .u8 10, .bool b] w fun e w' => Escd b 10 e ∧ w' = w := by
  go_enter Tryz.func94, Tryz.ntmps94
  go_wp2
  go_ret2
  exact ⟨⟨[38, 35, 49, 48, 59], by cases b <;> rfl, by cases b <;> decide, by decide⟩, rfl⟩
theorem u8_ne {c d : UInt8} (h : c ≠ d) : ((c.toNat : Int) == d.toNat) = false := by
  rw [beq_eq_false_iff_ne]
  intro h2
  exact h (UInt8.toNat_inj.1 (by omega))
theorem escaped_any (b : Bool) (c : UInt8) (w : World) : Calls Tryz.prog 94 #[.int .u8 c.toNat, .bool b] w fun e w' => Escd b c e ∧ w' = w := by
  by_cases h38 : c = 38
  · subst h38; exact escaped_38 b w
  by_cases h60 : c = 60
  · subst h60; exact escaped_60 b w
  by_cases h62 : c = 62
  · subst h62; exact escaped_62 b w
  by_cases h13 : c = 13
  · subst h13; exact escaped_13 b w
  by_cases h34 : c = 34
  · subst h34; exact escaped_34 b w
  by_cases h9 : c = 9
  · subst h9; exact escaped_9 b w
  by_cases h10 : c = 10
  · subst h10; exact escaped_10 b w
  have e38 : ((c.toNat : Int) == 38) = false := u8_ne (d := 38) h38
  have e60 : ((c.toNat : Int) == 60) = false := u8_ne (d := 60) h60
  have e62 : ((c.toNat : Int) == 62) = false := u8_ne (d := 62) h62
  have e13 : ((c.toNat : Int) == 13) = false := u8_ne (d := 13) h13
  have e34 : ((c.toNat : Int) == 34) = false := u8_ne (d := 34) h34
  have e9 : ((c.toNat : Int) == 9) = false := u8_ne (d := 9) h9
  have e10 : ((c.toNat : Int) == 10) = false := u8_ne (d := 10) h10
  have HO : Hid (escOk b c = false) := Lib.hid (by simp [escOk, h38, h60, h62, h13, h34, h9, h10])
  clear h38 h60 h62 h13 h34 h9 h10
  go_enter Tryz.func94, Tryz.ntmps94
  go_wp2
  go_ret2
  exact ⟨⟨[], by rw [HO.out]; rfl, by rw [HO.out]; simp, by simp⟩, rfl⟩

set_option maxHeartbeats 2000000 in
/-- chars.Escape -/
theorem Escape_any (b : Bool) (s : ByteArray) (hs : s.size ≤ 1000000) (w : World) :
    Calls Tryz.prog 73 #[.string s, .bool b] w fun e w' => e = .returned (.string (str (escS b s.data.toList))) ∧ Below w.heap.size w w' := by
  have hlen : s.data.toList.length = s.size := by simp
  have HL := Lib.hid hlen; clear hlen
  go_enter Tryz.func73, Tryz.ntmps73
  go_wp2
  go_loopw [11] (fun i wr => ∃ k : Nat, k ≤ s.size ∧ i = .int .i64 k ∧ Bld w.heap.size w.heap.size (escS b (s.data.toList.take k)) wr ∧ Below w.heap.size w wr) (fun i _ => s.size - (intOf i).toNat)
  case atStart =>
    refine ⟨0, Nat.zero_le _, rfl, ?_, (Below.refl _ _).alloc (Nat.le_refl _) _⟩
    exact .inl ⟨Nat.le_refl _, _, heap_alloc_new w _, World.ownsRow_nil _ _ _ _, by simp [Value.ownBlock]⟩
  case round =>
    obtain ⟨k, hk, rfl, hbu, hb⟩ := hrel
    have hsz := hb.size
    have hl := escS_len b (s.data.toList.take k)
    have hl2 : (s.data.toList.take k).length ≤ k := by simp; omega
    by_cases hlt : k < s.size
    · obtain ⟨c, hc⟩ : ∃ c, s.data.toList[k]? = some c := ⟨_, List.getElem?_eq_getElem (by simpa using hlt)⟩
      have hix := hidx s k c hc
      have HT : Hid (escS b (s.data.toList.take (k + 1)) = escS b (s.data.toList.take k) ++ esc1 b c) := Lib.hid (by rw [take_snoc _ k c hc, escS_snoc])
      clear hc
      obtain ⟨acc, hacc⟩ : ∃ acc, acc = escS b (s.data.toList.take k) := ⟨_, rfl⟩
      rw [← hacc] at hbu hl
      have HA := Lib.hid hacc; clear hacc
      have HB := Lib.hid hbu; clear hbu
      cases hok : escOk b c with
      | true =>
        go_wp2_with fail
        refine (escaped_any b c _).mono ?_
        rintro e w1 ⟨⟨x, rfl, hx, hx6⟩, rfl⟩
        have HX := Lib.hid (hx hok); clear hx
        rw [hok]
        go_wp2_with fail
        refine (bu_writeString w.heap.size w.heap.size acc _ _ HB.out (by simp [ByteArray.size]; omega) hsz).mono ?_
        rintro e w2 ⟨rfl, hbu2, hb2⟩
        go_wp2
        go_roundw
        case rel => exact ⟨k + 1, by omega, by go_num, by rw [HT.out, ← HA.out, ← HX.out]; exact hbu2, hb.trans hb2⟩
        case measure => simp [intOf]; omega
      | false =>
        go_wp2_with fail
        refine (escaped_any b c _).mono ?_
        rintro e w1 ⟨⟨x, rfl, hx, hx6⟩, rfl⟩
        have HX := Lib.hid (esc1_no hok)
        clear hx
        rw [hok]
        go_wp2_with fail
        refine (bu_writeByte w.heap.size w.heap.size acc c _ HB.out (by omega) hsz).mono ?_
        rintro e w2 ⟨rfl, hbu2, hb2⟩
        go_wp2
        go_roundw
        case rel => exact ⟨k + 1, by omega, by go_num, by rw [HT.out, ← HA.out, HX.out]; exact hbu2, hb.trans hb2⟩
        case measure => simp [intOf]; omega
    · have HT : Hid (s.data.toList.take k = s.data.toList) := Lib.hid (List.take_of_length_le (by rw [HL.out]; omega))
      go_wp2_with fail
      refine (Tryz.Builder_String_any w.heap.size w.heap.size _ _ hbu hsz).mono ?_
      rintro e w2 ⟨rfl, hb2⟩
      go_wp2
      go_ret
      exact ⟨ret_str (by rw [HT.out]; rfl), hb.trans hb2⟩

set_option maxHeartbeats 8000000 in
theorem refEscape_true (s : ByteArray) (hs : s.size ≤ 1000000) (w : World) :
    Calls Tryz.prog 30 #[.string s, .bool true] w fun e w' => e = .returned (.string (str (escS true s.data.toList))) ∧ w' = w := by
  have hlen : s.data.toList.length = s.size := by simp
  have HL := Lib.hid hlen; clear hlen
  go_enter Tryz.func30, Tryz.ntmps30
  go_wp2
  go_loop [5, 6] (fun out i => ∃ k : Nat, k ≤ s.size ∧ i = .int .i64 k ∧ out = .string (str (escS true (s.data.toList.take k)))) (fun _ i => s.size - (intOf i).toNat)
  case atStart => exact ⟨0, Nat.zero_le _, rfl, rfl⟩
  case round =>
    obtain ⟨k, hk, rfl, rfl⟩ := hrel
    have hl := escS_len true (s.data.toList.take k)
    have hl2 : (s.data.toList.take k).length ≤ k := by simp; omega
    by_cases hlt : k < s.size
    · obtain ⟨c, hc⟩ : ∃ c, s.data.toList[k]? = some c := ⟨_, List.getElem?_eq_getElem (by simpa using hlt)⟩
      have hsl : ∀ w, (Instr.slice 9 (.string s) (some (.int .i64 k)) (some (.int .i64 ((k:Int)+1))) none).run Tryz.prog w = .ok (.string (str [c])) w := fun w => by
        rw [run_slice_string w 9 s _ _ _ _ Tryz.underlying9 (by omega) (by omega) (by omega), ← ext_one s k c hc]; rfl
      have HT : Hid (escS true (s.data.toList.take (k + 1)) = escS true (s.data.toList.take k) ++ esc1 true c) := Lib.hid (by rw [take_snoc _ k c hc, escS_snoc])
      clear hc
      obtain ⟨acc, hacc⟩ : ∃ acc, acc = escS true (s.data.toList.take k) := ⟨_, rfl⟩
      rw [← hacc] at hl
      have hsz : (str acc).size ≤ 6 * k := by rw [size_str]; omega
      rw [← hacc]
      have HA := Lib.hid hacc; clear hacc
      have h1 : (k : Int) + 1 ≤ s.size := by omega
      clear hl hl2
      have hc1 : (str [c]).size ≤ 1 := by rw [size_str]; simp
      go_wp2
      all_goals
        refine ⟨⟨k + 1, by omega, ?_⟩, by simp [intOf]; omega⟩
        refine ⟨by first | go_num | omega, ?_⟩
        try apply congrArg Value.string
        rw [HT.out, ← HA.out]
        first
          | rw [app_str]
          | rw [app_lit]
        simp [esc1, ← one_eq, *]
    · have HT : Hid (s.data.toList.take k = s.data.toList) := Lib.hid (List.take_of_length_le (by rw [HL.out]; omega))
      go_wp2
      go_ret
      exact ⟨ret_str (by rw [HT.out]), rfl⟩
set_option maxHeartbeats 8000000 in
theorem refEscape_false (s : ByteArray) (hs : s.size ≤ 1000000) (w : World) :
    Calls Tryz.prog 30 #[.string s, .bool false] w fun e w' => e = .returned (.string (str (escS false s.data.toList))) ∧ w' = w := by
  have hlen : s.data.toList.length = s.size := by simp
  have HL := Lib.hid hlen; clear hlen
  go_enter Tryz.func30, Tryz.ntmps30
  go_wp2
  go_loop [5, 6] (fun out i => ∃ k : Nat, k ≤ s.size ∧ i = .int .i64 k ∧ out = .string (str (escS false (s.data.toList.take k)))) (fun _ i => s.size - (intOf i).toNat)
  case atStart => exact ⟨0, Nat.zero_le _, rfl, rfl⟩
  case round =>
    obtain ⟨k, hk, rfl, rfl⟩ := hrel
    have hl := escS_len false (s.data.toList.take k)
    have hl2 : (s.data.toList.take k).length ≤ k := by simp; omega
    by_cases hlt : k < s.size
    · obtain ⟨c, hc⟩ : ∃ c, s.data.toList[k]? = some c := ⟨_, List.getElem?_eq_getElem (by simpa using hlt)⟩
      have hsl : ∀ w, (Instr.slice 9 (.string s) (some (.int .i64 k)) (some (.int .i64 ((k:Int)+1))) none).run Tryz.prog w = .ok (.string (str [c])) w := fun w => by
        rw [run_slice_string w 9 s _ _ _ _ Tryz.underlying9 (by omega) (by omega) (by omega), ← ext_one s k c hc]; rfl
      have HT : Hid (escS false (s.data.toList.take (k + 1)) = escS false (s.data.toList.take k) ++ esc1 false c) := Lib.hid (by rw [take_snoc _ k c hc, escS_snoc])
      clear hc
      obtain ⟨acc, hacc⟩ : ∃ acc, acc = escS false (s.data.toList.take k) := ⟨_, rfl⟩
      rw [← hacc] at hl
      have hsz : (str acc).size ≤ 6 * k := by rw [size_str]; omega
      rw [← hacc]
      have HA := Lib.hid hacc; clear hacc
      have h1 : (k : Int) + 1 ≤ s.size := by omega
      clear hl hl2
      have hc1 : (str [c]).size ≤ 1 := by rw [size_str]; simp
      go_wp2
      all_goals
        refine ⟨⟨k + 1, by omega, ?_⟩, by simp [intOf]; omega⟩
        refine ⟨by first | go_num | omega, ?_⟩
        try apply congrArg Value.string
        rw [HT.out, ← HA.out]
        first
          | rw [app_str]
          | rw [app_lit]
        simp [esc1, ← one_eq, *]
    · have HT : Hid (s.data.toList.take k = s.data.toList) := Lib.hid (List.take_of_length_le (by rw [HL.out]; omega))
      go_wp2
      go_ret
      exact ⟨ret_str (by rw [HT.out]), rfl⟩
/-- the answer's Escape -/
theorem refEscape_any (b : Bool) (s : ByteArray) (hs : s.size ≤ 1000000) (w : World) :
    Calls Tryz.prog 30 #[.string s, .bool b] w fun e w' => e = .returned (.string (str (escS b s.data.toList))) ∧ w' = w := by
  cases b
  · exact refEscape_false s hs w
  · exact refEscape_true s hs w
end Go.Proofs.YtpbkidmdfibaoaaGreatDoor
