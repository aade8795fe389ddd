/-
  Layer 2: the answer's Name, for a text of any size; apos. Own work.
-/
import Derived.Test.YtldgjiohigiioaaName2
import Derived.Test.YtldgjiohigiioaaTags2
namespace Go.Proofs.Ytldgjiohigiioaa
set_option linter.unusedVariables false
set_option linter.unusedSimpArgs false
open Go.RowKit

set_option maxHeartbeats 2000000 in
theorem refName_big (s : ByteArray) (hs : s.size ≤ 9223372036854775807) (w : World) : Calls Try.prog 20 #[.string s] w (NamePost s w) := by
  go_enter Try.func20, Try.ntmps20
  go_wp2
  go_loop [3, 4] (fun n i => ∃ k : Nat, k ≤ s.size ∧ i = .int .i64 k ∧ n = .int .i64 k ∧ (0 < k → isFirst (bt s 0 : Int) = true) ∧ (∀ i, 1 ≤ i → i < k → isName (bt s i : Int) = true)) (fun _ i => s.size - (intOf i).toNat)
  case atStart => exact ⟨0, Nat.zero_le _, rfl, rfl, fun h => by omega, fun i a b => by omega⟩
  case round =>
    obtain ⟨k, hk, rfl, rfl, hf0, ha⟩ := hrel
    have HA := Lib.hid ha; clear ha
    have HF0 := Lib.hid hf0; clear hf0
    by_cases hlt : k < s.size
    · have hik := btidx s k hlt
      have hi0 : ∀ w, (Instr.index 9 (.string s) (.int .i64 0)).run Try.prog w = .ok (.int .u8 (bt s 0 : Int)) w := btidx s 0 (by omega)
      have hl : (k : Int) < s.size := by omega
      have h0l : (0 : Int) < s.size := by omega
      have hn := fun w => is_at (bt s k : Int) 8 (isName (bt s k : Int)) (by omega) (by omega) (cls_all _).2.2.2.1 w
      have hf := fun w => is_at (bt s 0 : Int) 4 (isFirst (bt s 0 : Int)) (by omega) (by omega) (cls_all _).2.2.1 w
      by_cases hk0 : k = 0
      · subst hk0
        cases hfb : isFirst (bt s 0 : Int)
        · rw [hfb] at hf
          have HB := Lib.hid hfb
          cases hnb : isName (bt s 0 : Int)
          all_goals
            rw [hnb] at hn
            have HN := Lib.hid hn
            have HF := Lib.hid hf
            clear hn hf hnb hfb
            go_wp2_with (first | (go_at_call 21; with_reducible refine (HN.out _).mono ?_; rintro e w' ⟨rfl, rfl⟩) | (go_at_call 21; with_reducible refine (HF.out _).mono ?_; rintro e w' ⟨rfl, rfl⟩))
            go_ret
            exact ⟨0, rfl, .inl ⟨rfl, .inr HB.out⟩, rfl⟩
        · have hnb := first_name _ hfb
          rw [hfb] at hf
          rw [hnb] at hn
          have HN := Lib.hid hn
          have HF := Lib.hid hf
          have HB := Lib.hid hfb
          clear hn hf hnb hfb
          go_wp2_with (first | (go_at_call 21; with_reducible refine (HN.out _).mono ?_; rintro e w' ⟨rfl, rfl⟩) | (go_at_call 21; with_reducible refine (HF.out _).mono ?_; rintro e w' ⟨rfl, rfl⟩))
          exact ⟨⟨1, by omega, rfl, rfl, fun _ => (by first | exact HB.out | trivial), fun i a b => by omega⟩, by simp [intOf]; omega⟩
      · have hk1 : (1 : Int) ≤ k := by omega
        have hke : ((k : Int) == 0) = false := by simp; omega
        cases hnb : isName (bt s k : Int)
        · rw [hnb] at hn
          have HN := Lib.hid hn
          have HNB := Lib.hid hnb
          clear hn hf hnb
          go_wp2_with (go_at_call 21; with_reducible refine (HN.out _).mono ?_; rintro e w' ⟨rfl, rfl⟩)
          go_ret
          exact ⟨k, rfl, .inr ⟨by omega, hk, HF0.out (by omega), HA.out, .inr HNB.out⟩, rfl⟩
        · rw [hnb] at hn
          have HN := Lib.hid hn
          have HNB := Lib.hid hnb
          clear hn hf hnb
          go_wp2_with (go_at_call 21; with_reducible refine (HN.out _).mono ?_; rintro e w' ⟨rfl, rfl⟩)
          refine ⟨⟨k + 1, by omega, by go_num, by go_num, fun _ => HF0.out (by omega), fun i a b => ?_⟩, by simp [intOf]; omega⟩
          by_cases hik2 : i = k
          · subst hik2; exact HNB.out
          · exact HA.out i a (by omega)
    · have hks : k = s.size := by omega
      have HK := Lib.hid hks; clear hks
      go_wp2
      go_ret
      refine ⟨k, rfl, ?_, rfl⟩
      by_cases hk0 : k = 0
      · exact .inl ⟨hk0, .inl (by rw [← HK.out]; exact hk0)⟩
      · exact .inr ⟨by omega, hk, HF0.out (by omega), HA.out, .inl HK.out⟩


theorem apos_snoc (l : List UInt8) (c : UInt8) : aposL (l ++ [c]) = aposL l ++ apos1 c := by simp [aposL]
theorem apos_len : ∀ l : List UInt8, (aposL l).length ≤ 6 * l.length
  | [] => by simp [aposL]
  | c :: l => by
    have := apos_len l
    have h1 : (apos1 c).length ≤ 6 := by unfold apos1; split <;> simp
    simp only [aposL, List.flatMap_cons, List.length_append, List.length_cons] at this ⊢
    omega
set_option maxHeartbeats 4000000 in
theorem apos_any (l : List UInt8) (hl : l.length ≤ 100000) (w : World) :
    Calls Try.prog 23 #[.string (str l)] w fun e w' => e = .returned (.string (str (aposL l))) ∧ w' = w := by
  have HSZ := Lib.hid (size_str l)
  go_enter Try.func23, Try.ntmps23
  go_wp2_with fail
  go_loop [3, 4] (fun o i => ∃ k : Nat, k ≤ (str l).size ∧ i = .int .i64 k ∧ o = .string (str (aposL (l.take k)))) (fun _ i => (str l).size - (intOf i).toNat)
  case atStart => exact ⟨0, Nat.zero_le _, rfl, rfl⟩
  case round =>
    obtain ⟨k, hk, rfl, rfl⟩ := hrel
    have hln := apos_len (l.take k)
    have hl2 : (l.take k).length ≤ k := by simp; omega
    have hsz := HSZ.out
    by_cases hlt : k < (str l).size
    · obtain ⟨c, hc⟩ : ∃ c, l[k]? = some c := ⟨_, List.getElem?_eq_getElem (by rw [← HSZ.out]; exact hlt)⟩
      have hi := fun w => bidx2 (str l) k c (by rw [toList_str]; exact hc) w
      have hltI : (k : Int) < ((str l).size : Int) := by omega
      have hbd : ((str l).size : Int) ≤ 100000 := by omega
      have hx1 : (str l).extract k (k + 1) = str [c] := by
        rw [ext_str, toList_str, take_snoc _ k c hc, List.drop_append_of_le_length (by simp; have := (List.getElem?_eq_some_iff.1 hc).1; omega)]
        rw [List.drop_of_length_le (by simp; omega)]
        rfl
      have hsl : ∀ w, (Instr.slice 9 (.string (str l)) (some (.int .i64 (k : Int))) (some (.int .i64 ((k : Int) + 1))) none).run Try.prog w = .ok (.string (str [c])) w := fun w => by
        rw [run_slice_string w 9 _ _ _ _ _ Try.underlying9 (by omega) (by omega) (by omega), ← hx1]
        congr 3
      have HT := Lib.hid (show aposL (l.take (k + 1)) = aposL (l.take k) ++ apos1 c by rw [take_snoc _ k c hc, apos_snoc])
      have hav : ((str (aposL (l.take k))).size : Int) ≤ 600000 := by rw [size_str]; omega
      have hcs : ((str [c]).size : Int) ≤ 1 := by rw [size_str]; simp
      generalize aposL (l.take k) = acc at hav HT ⊢
      clear hc hx1 hln hl2 hsz
      by_cases h39 : c = 39
      · have hq : ((c.toNat : Int) == 39) = true := by rw [h39]; rfl
        have HF := Lib.hid (show Value.string (str acc ++ ⟨#[38, 97, 112, 111, 115, 59]⟩) = .string (str (aposL (l.take (k + 1)))) by rw [HT.out, h39]; exact congrArg Value.string (app_str acc [38, 97, 112, 111, 115, 59]))
        clear h39
        go_wp2
        refine ⟨⟨k + 1, by omega, by go_num, HF.out⟩, by simp [intOf]; omega⟩
      · have hq : ((c.toNat : Int) == 39) = false := by
          rw [beq_eq_false_iff_ne]
          intro h
          exact h39 (UInt8.toNat_inj.1 (by simpa using (show c.toNat = 39 by omega)))
        have HF := Lib.hid (show Value.string (str acc ++ str [c]) = .string (str (aposL (l.take (k + 1)))) by rw [HT.out, apos1, if_neg h39, app_str])
        clear h39
        go_wp2
        refine ⟨⟨k + 1, by omega, by go_num, HF.out⟩, by simp [intOf]; omega⟩
    · have HT := Lib.hid (show l.take k = l from List.take_of_length_le (by omega))
      have hle : ((str l).size : Int) ≤ (k : Int) := by omega
      clear hsz hln hl2
      go_wp2
      go_ret
      exact ⟨ret_str (by rw [HT.out]), rfl⟩
end Go.Proofs.Ytldgjiohigiioaa
