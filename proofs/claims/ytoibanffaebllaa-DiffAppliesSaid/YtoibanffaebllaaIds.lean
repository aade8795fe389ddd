/-
  Layers 4 and 6: which texts are ids and versions: the contracts of coord.IsId, version.May and of their answers. Own work.
-/
import Derived.Test.YtoibanffaebllaaBytes
namespace Go.Proofs.Ytoibanffaebllaa
set_option linter.unusedVariables false
set_option linter.unusedSimpArgs false
open Go.RowKit

theorem bidx (s : ByteArray) (k : Nat) (c : UInt8) (h : s.data.toList[k]? = some c) (w : World) :
    (Instr.index 9 (.string s) (.int .i64 (k : Int))).run Try.prog w = .ok (.int .u8 (c.toNat : Int)) w := by
  have hk : k < s.size := by have := (List.getElem?_eq_some_iff.1 h).1; simpa using this
  rw [run_index_string w 9 s _ _ Try.underlying9, dif_pos ⟨by omega, by omega⟩]
  have : s[(k : Int).toNat]'(by simpa using hk) = c := by
    have h2 : s.data[k] = c := by have := (List.getElem?_eq_some_iff.1 h).2; simpa using this
    exact h2
  rw [this]

def idB (c : UInt8) : Bool := isName (c.toNat : Int) && !((c.toNat : Int) == 58)
def verB (c : UInt8) : Bool := idB c || (c.toNat : Int) == 43
def isId (s : ByteArray) : Bool := decide (0 < s.size) && decide (s.size ≤ 64) && s.data.toList.all idB
def mayVer (s : ByteArray) : Bool := decide (0 < s.size) && decide (s.size ≤ 64) && s.data.toList.all verB

theorem all_stop {α : Type} {p : α → Bool} {l : List α} {k : Nat} {c : α} (h : l[k]? = some c) (hp : p c = false) : l.all p = false := by
  have hm : c ∈ l := List.mem_of_getElem? h
  rw [Bool.eq_false_iff]
  intro ha
  have := List.all_eq_true.1 ha c hm
  rw [hp] at this; cases this
theorem all_take {α : Type} {p : α → Bool} {l : List α} {k : Nat} {c : α} (h : l[k]? = some c) (hp : p c = true) (ha : (l.take k).all p = true) : (l.take (k + 1)).all p = true := by
  rw [take_snoc _ k c h, List.all_append, ha]; simp [hp]
theorem isEmpty_beq (s : ByteArray) : (s.toList == ([] : List UInt8)) = decide (s.size = 0) := by
  rw [Bool.eq_iff_iff]
  simp only [beq_iff_eq, decide_eq_true_eq]
  rw [ByteArray.toList_eq]
  constructor
  · intro h; have := congrArg List.length h; simpa using this
  · intro h; apply List.eq_nil_of_length_eq_zero; simpa using h

theorem idB_iff (c : UInt8) : idB c = true ↔ (97 ≤ (c.toNat : Int) ∧ (c.toNat : Int) ≤ 122) ∨ (65 ≤ (c.toNat : Int) ∧ (c.toNat : Int) ≤ 90) ∨ (48 ≤ (c.toNat : Int) ∧ (c.toNat : Int) ≤ 57) ∨ (c.toNat : Int) = 46 ∨ (c.toNat : Int) = 45 ∨ (c.toNat : Int) = 95 := by
  simp only [idB, isName, isFirst, isDigit, isMark, Bool.and_eq_true, Bool.or_eq_true, Bool.not_eq_true', decide_eq_true_eq, beq_iff_eq, beq_eq_false_iff_ne]
  omega
theorem byte_cases (c : UInt8) :
    ((97 ≤ (c.toNat : Int) ∧ (c.toNat : Int) ≤ 122) ∧ idB c = true ∧ verB c = true) ∨ ((65 ≤ (c.toNat : Int) ∧ (c.toNat : Int) ≤ 90) ∧ idB c = true ∧ verB c = true) ∨ ((48 ≤ (c.toNat : Int) ∧ (c.toNat : Int) ≤ 57) ∧ idB c = true ∧ verB c = true) ∨
    ((c.toNat : Int) = 46 ∧ idB c = true ∧ verB c = true) ∨ ((c.toNat : Int) = 45 ∧ idB c = true ∧ verB c = true) ∨ ((c.toNat : Int) = 95 ∧ idB c = true ∧ verB c = true) ∨ ((c.toNat : Int) = 43 ∧ idB c = false ∧ verB c = true) ∨
    (((c.toNat : Int) < 43 ∨ ((c.toNat : Int) = 44 ∨ (c.toNat : Int) = 47) ∨ (57 < (c.toNat : Int) ∧ (c.toNat : Int) < 65) ∨ (90 < (c.toNat : Int) ∧ (c.toNat : Int) < 95 ∨ (c.toNat : Int) = 96) ∨ 122 < (c.toNat : Int)) ∧ idB c = false ∧ verB c = false) := by
  have hv : verB c = (idB c || (c.toNat : Int) == 43) := rfl
  cases hi : idB c
  · have h := mt (idB_iff c).2 (by rw [hi]; simp)
    by_cases h43 : (c.toNat : Int) = 43
    · exact .inr (.inr (.inr (.inr (.inr (.inr (.inl ⟨h43, rfl, by rw [hv, hi]; simpa using h43⟩))))))
    · refine .inr (.inr (.inr (.inr (.inr (.inr (.inr ⟨?_, rfl, ?_⟩))))))
      · omega
      · rw [hv, hi]; simpa using h43
  · have h := (idB_iff c).1 hi
    have hv' : verB c = true := by rw [hv, hi]; rfl
    rcases h with h | h | h | h | h | h
    · exact .inl ⟨h, rfl, hv'⟩
    · exact .inr (.inl ⟨h, rfl, hv'⟩)
    · exact .inr (.inr (.inl ⟨h, rfl, hv'⟩))
    · exact .inr (.inr (.inr (.inl ⟨h, rfl, hv'⟩)))
    · exact .inr (.inr (.inr (.inr (.inl ⟨h, rfl, hv'⟩))))
    · exact .inr (.inr (.inr (.inr (.inr (.inl ⟨h, rfl, hv'⟩)))))
theorem isId_none {s : ByteArray} (h : s.data.toList.all idB = false) : isId s = false := by unfold isId; rw [h]; simp
theorem mayVer_none {s : ByteArray} (h : s.data.toList.all verB = false) : mayVer s = false := by unfold mayVer; rw [h]; simp
set_option maxHeartbeats 1000000 in
theorem refIsId_any (s : ByteArray) (hs : s.size ≤ 1000000) (w : World) :
    Calls Try.prog 50 #[.string s] w fun e w' => e = .returned (.bool (isId s)) ∧ w' = w := by
  have hlen : s.data.toList.length = s.size := by simp
  have HL := Lib.hid hlen; clear hlen
  go_enter Try.func50, Try.ntmps50
  go_wp2
  go_loop [3] (fun i => ∃ k : Nat, k ≤ s.size ∧ i = .int .i64 k ∧ (s.data.toList.take k).all idB = true) (fun i => s.size - (intOf i).toNat)
  case atStart => exact ⟨0, Nat.zero_le _, rfl, rfl⟩
  case round =>
    obtain ⟨k, hk, rfl, ha⟩ := hrel
    have HA := Lib.hid ha; clear ha
    by_cases hlt : k < s.size
    · obtain ⟨c, hc⟩ : ∃ c, s.data.toList[k]? = some c := ⟨_, List.getElem?_eq_getElem (by simpa using hlt)⟩
      have hix := bidx s k c hc
      have HC := Lib.hid hc; clear hc
      rcases byte_cases c with ⟨hr, hi, hv⟩ | ⟨hr, hi, hv⟩ | ⟨hr, hi, hv⟩ | ⟨hr, hi, hv⟩ | ⟨hr, hi, hv⟩ | ⟨hr, hi, hv⟩ | ⟨hr, hi, hv⟩ | ⟨hr | hr | hr | hr | hr, hi, hv⟩
      all_goals first | have e46 : ((c.toNat : Int) == 46) = false := (by simp; omega) | have e46 : ((c.toNat : Int) == 46) = true := (by simp; omega)
      all_goals first | have e45 : ((c.toNat : Int) == 45) = false := (by simp; omega) | have e45 : ((c.toNat : Int) == 45) = true := (by simp; omega)
      all_goals first | have e95 : ((c.toNat : Int) == 95) = false := (by simp; omega) | have e95 : ((c.toNat : Int) == 95) = true := (by simp; omega)
      all_goals first | have e43 : ((c.toNat : Int) == 43) = false := (by simp; omega) | have e43 : ((c.toNat : Int) == 43) = true := (by simp; omega)
      all_goals first | have d57 : decide ((c.toNat : Int) ≤ 57) = false := (by simp; omega) | have d57 : decide ((c.toNat : Int) ≤ 57) = true := (by simp; omega)
      all_goals first | have d90 : decide ((c.toNat : Int) ≤ 90) = false := (by simp; omega) | have d90 : decide ((c.toNat : Int) ≤ 90) = true := (by simp; omega)
      all_goals first | have d122 : decide ((c.toNat : Int) ≤ 122) = false := (by simp; omega) | have d122 : decide ((c.toNat : Int) ≤ 122) = true := (by simp; omega)
      all_goals try have HI := Lib.hid hi
      all_goals try have HV := Lib.hid hv
      all_goals try clear hi hv
      all_goals go_wp2
      all_goals first
        | exact ⟨⟨k + 1, by omega, by go_num, all_take HC.out HI.out HA.out⟩, by simp [intOf]; omega⟩
        | (go_ret; exact ⟨ret_bool (isId_none (all_stop HC.out HI.out)).symm, rfl⟩)
    · have hks : k = s.size := by omega
      have HK := Lib.hid hks; clear hks
      go_wp2
      all_goals
        go_ret
        refine ⟨ret_bool ?_, rfl⟩
        have ha := HA.out
        rw [HK.out, List.take_of_length_le (by rw [HL.out]; exact Nat.le_refl _)] at ha
        unfold isId
        rw [ha]
        rw [Bool.eq_iff_iff]
        simp
        try omega
set_option maxHeartbeats 1000000 in
theorem refMayVer_any (s : ByteArray) (hs : s.size ≤ 1000000) (w : World) :
    Calls Try.prog 51 #[.string s] w fun e w' => e = .returned (.bool (mayVer s)) ∧ w' = w := by
  have hlen : s.data.toList.length = s.size := by simp
  have HL := Lib.hid hlen; clear hlen
  go_enter Try.func51, Try.ntmps51
  go_wp2
  go_loop [3] (fun i => ∃ k : Nat, k ≤ s.size ∧ i = .int .i64 k ∧ (s.data.toList.take k).all verB = true) (fun i => s.size - (intOf i).toNat)
  case atStart => exact ⟨0, Nat.zero_le _, rfl, rfl⟩
  case round =>
    obtain ⟨k, hk, rfl, ha⟩ := hrel
    have HA := Lib.hid ha; clear ha
    by_cases hlt : k < s.size
    · obtain ⟨c, hc⟩ : ∃ c, s.data.toList[k]? = some c := ⟨_, List.getElem?_eq_getElem (by simpa using hlt)⟩
      have hix := bidx s k c hc
      have HC := Lib.hid hc; clear hc
      rcases byte_cases c with ⟨hr, hi, hv⟩ | ⟨hr, hi, hv⟩ | ⟨hr, hi, hv⟩ | ⟨hr, hi, hv⟩ | ⟨hr, hi, hv⟩ | ⟨hr, hi, hv⟩ | ⟨hr, hi, hv⟩ | ⟨hr | hr | hr | hr | hr, hi, hv⟩
      all_goals first | have e46 : ((c.toNat : Int) == 46) = false := (by simp; omega) | have e46 : ((c.toNat : Int) == 46) = true := (by simp; omega)
      all_goals first | have e45 : ((c.toNat : Int) == 45) = false := (by simp; omega) | have e45 : ((c.toNat : Int) == 45) = true := (by simp; omega)
      all_goals first | have e95 : ((c.toNat : Int) == 95) = false := (by simp; omega) | have e95 : ((c.toNat : Int) == 95) = true := (by simp; omega)
      all_goals first | have e43 : ((c.toNat : Int) == 43) = false := (by simp; omega) | have e43 : ((c.toNat : Int) == 43) = true := (by simp; omega)
      all_goals first | have d57 : decide ((c.toNat : Int) ≤ 57) = false := (by simp; omega) | have d57 : decide ((c.toNat : Int) ≤ 57) = true := (by simp; omega)
      all_goals first | have d90 : decide ((c.toNat : Int) ≤ 90) = false := (by simp; omega) | have d90 : decide ((c.toNat : Int) ≤ 90) = true := (by simp; omega)
      all_goals first | have d122 : decide ((c.toNat : Int) ≤ 122) = false := (by simp; omega) | have d122 : decide ((c.toNat : Int) ≤ 122) = true := (by simp; omega)
      all_goals try have HI := Lib.hid hi
      all_goals try have HV := Lib.hid hv
      all_goals try clear hi hv
      all_goals go_wp2
      all_goals first
        | exact ⟨⟨k + 1, by omega, by go_num, all_take HC.out HV.out HA.out⟩, by simp [intOf]; omega⟩
        | (go_ret; exact ⟨ret_bool (mayVer_none (all_stop HC.out HV.out)).symm, rfl⟩)
    · have hks : k = s.size := by omega
      have HK := Lib.hid hks; clear hks
      go_wp2
      all_goals
        go_ret
        refine ⟨ret_bool ?_, rfl⟩
        have ha := HA.out
        rw [HK.out, List.take_of_length_le (by rw [HL.out]; exact Nat.le_refl _)] at ha
        unfold mayVer
        rw [ha]
        rw [Bool.eq_iff_iff]
        simp
        try omega
set_option maxHeartbeats 1000000 in
theorem IsId_any (s : ByteArray) (hs : s.size ≤ 1000000) (w : World) :
    Calls Try.prog 55 #[.string s] w fun e w' => e = .returned (.bool (isId s)) ∧ w' = w := by
  have hlen : s.data.toList.length = s.size := by simp
  have HL := Lib.hid hlen; clear hlen
  have hemp := isEmpty_beq s
  by_cases h0 : s.size = 0
  · rw [decide_eq_true h0] at hemp
    go_enter Try.func55, Try.ntmps55
    go_wp2
    all_goals (go_ret; exact ⟨ret_bool (by simp [isId, h0]), rfl⟩)
  rw [decide_eq_false h0] at hemp
  by_cases h64 : s.size ≤ 64
  case neg =>
    go_enter Try.func55, Try.ntmps55
    go_wp2
    all_goals (go_ret; exact ⟨ret_bool (by simp [isId, h64]), rfl⟩)
  go_enter Try.func55, Try.ntmps55
  go_wp2
  go_loop [13] (fun i => ∃ k : Nat, k ≤ s.size ∧ i = .int .i64 k ∧ (s.data.toList.take k).all idB = true) (fun i => s.size - (intOf i).toNat)
  case atStart => exact ⟨0, Nat.zero_le _, rfl, rfl⟩
  case round =>
    obtain ⟨k, hk, rfl, ha⟩ := hrel
    have HA := Lib.hid ha; clear ha
    by_cases hlt : k < s.size
    · obtain ⟨c, hc⟩ : ∃ c, s.data.toList[k]? = some c := ⟨_, List.getElem?_eq_getElem (by simpa using hlt)⟩
      have hix := bidx s k c hc
      have HC := Lib.hid hc; clear hc
      have hP : idB c = (isName (c.toNat : Int) && !((c.toNat : Int) == 58)) := rfl
      have HP := Lib.hid hP; clear hP
      have hN := fun w => IsName_any (c.toNat : Int) w
      cases e58 : ((c.toNat : Int) == 58) <;> cases eN : isName (c.toNat : Int)
      all_goals rw [eN] at hN
      all_goals have HN := Lib.hid hN
      all_goals have EN := Lib.hid eN
      all_goals clear hN eN
      all_goals go_wp2_with (go_at_call 63; refine (HN.out _).mono ?_; rintro e w' ⟨rfl, rfl⟩)
      all_goals first
        | exact absurd (beq_iff_eq.1 e58) (by assumption)
        | exact ⟨⟨k + 1, by omega, by go_num, all_take HC.out (by rw [HP.out]; simp [idB, EN.out, *]) HA.out⟩, by simp [intOf]; omega⟩
        | (go_ret; exact ⟨ret_bool (isId_none (all_stop HC.out (by rw [HP.out]; simp [idB, EN.out, *]))).symm, rfl⟩)
    · have hks : k = s.size := by omega
      have HK := Lib.hid hks; clear hks
      go_wp2
      go_ret
      refine ⟨ret_bool ?_, rfl⟩
      have ha := HA.out
      rw [HK.out, List.take_of_length_le (by rw [HL.out]; exact Nat.le_refl _)] at ha
      unfold isId
      rw [ha]
      simp
      omega
set_option maxHeartbeats 1000000 in
theorem MayVer_any (s : ByteArray) (hs : s.size ≤ 1000000) (w : World) :
    Calls Try.prog 56 #[.string s] w fun e w' => e = .returned (.bool (mayVer s)) ∧ w' = w := by
  have hlen : s.data.toList.length = s.size := by simp
  have HL := Lib.hid hlen; clear hlen
  have hemp := isEmpty_beq s
  by_cases h0 : s.size = 0
  · rw [decide_eq_true h0] at hemp
    go_enter Try.func56, Try.ntmps56
    go_wp2
    all_goals (go_ret; exact ⟨ret_bool (by simp [mayVer, h0]), rfl⟩)
  rw [decide_eq_false h0] at hemp
  by_cases h64 : s.size ≤ 64
  case neg =>
    go_enter Try.func56, Try.ntmps56
    go_wp2
    all_goals (go_ret; exact ⟨ret_bool (by simp [mayVer, h64]), rfl⟩)
  go_enter Try.func56, Try.ntmps56
  go_wp2
  go_loop [15] (fun i => ∃ k : Nat, k ≤ s.size ∧ i = .int .i64 k ∧ (s.data.toList.take k).all verB = true) (fun i => s.size - (intOf i).toNat)
  case atStart => exact ⟨0, Nat.zero_le _, rfl, rfl⟩
  case round =>
    obtain ⟨k, hk, rfl, ha⟩ := hrel
    have HA := Lib.hid ha; clear ha
    by_cases hlt : k < s.size
    · obtain ⟨c, hc⟩ : ∃ c, s.data.toList[k]? = some c := ⟨_, List.getElem?_eq_getElem (by simpa using hlt)⟩
      have hix := bidx s k c hc
      have HC := Lib.hid hc; clear hc
      have hP : verB c = (idB c || (c.toNat : Int) == 43) := rfl
      have HP := Lib.hid hP; clear hP
      have hN := fun w => IsName_any (c.toNat : Int) w
      cases e58 : ((c.toNat : Int) == 58) <;> cases eN : isName (c.toNat : Int) <;> cases e43 : ((c.toNat : Int) == 43)
      all_goals rw [eN] at hN
      all_goals have HN := Lib.hid hN
      all_goals have EN := Lib.hid eN
      all_goals clear hN eN
      all_goals go_wp2_with (go_at_call 63; refine (HN.out _).mono ?_; rintro e w' ⟨rfl, rfl⟩)
      all_goals first
        | exact absurd (beq_iff_eq.1 e58) (by assumption)
        | exact ⟨⟨k + 1, by omega, by go_num, all_take HC.out (by rw [HP.out]; simp [idB, EN.out, *]) HA.out⟩, by simp [intOf]; omega⟩
        | (go_ret; exact ⟨ret_bool (mayVer_none (all_stop HC.out (by rw [HP.out]; simp [idB, EN.out, *]))).symm, rfl⟩)
    · have hks : k = s.size := by omega
      have HK := Lib.hid hks; clear hks
      go_wp2
      go_ret
      refine ⟨ret_bool ?_, rfl⟩
      have ha := HA.out
      rw [HK.out, List.take_of_length_le (by rw [HL.out]; exact Nat.le_refl _)] at ha
      unfold mayVer
      rw [ha]
      simp
      omega
end Go.Proofs.Ytoibanffaebllaa
