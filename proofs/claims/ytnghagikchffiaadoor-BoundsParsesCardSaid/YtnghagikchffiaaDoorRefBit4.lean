/-
  Layer 4: the answer's small functions, and what its slice of parts reads. Own work.
-/
import Derived.Test.YtnghagikchffiaaDoorVerRef
import Derived.Test.YtnghagikchffiaaDoorVer4
namespace Go.Proofs.YtnghagikchffiaaDoor
set_option linter.unusedVariables false
set_option linter.unusedSimpArgs false
open Go.RowKit

/-- a part as the answer holds it -/
def rtV (p : Pt) : Value := .agg #[.bool (!p.nu), .bool p.hy, .string (str p.tx)]
def rtCells (p : Pt) : List Value := [.bool (!p.nu), .bool p.hy, .string (str p.tx)]
theorem digit04 (c : UInt8) (w : World) :
    Calls Tryd.prog 61 #[.int .u8 (c.toNat : Int)] w fun e w' => e = .returned (.bool (isDg c)) ∧ w' = w := by
  rw [isDg_isDigit]
  go_enter Tryd.func61, Tryd.ntmps61
  go_wp2
  all_goals (go_ret; exact ⟨ret_bool (by rw [Bool.eq_iff_iff]; simp [isDigit]; omega), rfl⟩)
theorem lower04 (c : UInt8) (w : World) :
    Calls Tryd.prog 62 #[.int .u8 (c.toNat : Int)] w fun e w' => e = .returned (.int .u8 ((lowB c).toNat : Int)) ∧ w' = w := by
  have hc := c.toNat_lt
  by_cases hup : 65 ≤ c.toNat ∧ c.toNat ≤ 90
  · have hu : ((lowB c).toNat : Int) = c.toNat + 32 := low1_add hup
    have HU := Lib.hid hu; clear hu
    have a1 : (65 : Int) ≤ c.toNat := by omega
    have a2 : (c.toNat : Int) ≤ 90 := by omega
    clear hup
    go_enter Tryd.func62, Tryd.ntmps62
    go_wp2
    go_ret
    exact ⟨by rw [HU.out]; rfl, rfl⟩
  · have hu : lowB c = c := low1_same hup
    have HU := Lib.hid hu; clear hu
    by_cases h1 : 65 ≤ c.toNat
    · have a1 : (65 : Int) ≤ c.toNat := by omega
      have a2 : (90 : Int) < c.toNat := by omega
      clear hup h1
      go_enter Tryd.func62, Tryd.ntmps62
      go_wp2
      go_ret
      exact ⟨by rw [HU.out]; rfl, rfl⟩
    · have a1 : (c.toNat : Int) < 65 := by omega
      clear hup h1
      go_enter Tryd.func62, Tryd.ntmps62
      go_wp2
      go_ret
      exact ⟨by rw [HU.out]; rfl, rfl⟩
/-- no part's text is the word 'ga' -/
theorem wordP_ga {t : List UInt8} (h : wordP t false = t) : t ≠ [103, 97] := by
  rintro rfl
  revert h; decide
theorem parts_ga {l : List UInt8} {p : Pt} (h : p ∈ partsB l) : p.nu = false → p.tx ≠ [103, 97] := fun hn => wordP_ga ((((partsB_wf l).1 p h).word hn).2)
def rwords : List (List UInt8) := [[97, 108, 112, 104, 97], [98, 101, 116, 97], [109, 105, 108, 101, 115, 116, 111, 110, 101], [114, 99], [115, 110, 97, 112, 115, 104, 111, 116], [103, 97], [115, 112]]
theorem rwords_at {t : List UInt8} {k : Nat} (h : rwords[k]? = some t) (hg : t ≠ [103, 97]) : rankW t = k := by
  match k with
  | 0 => simp [rwords] at h; subst h; rfl
  | 1 => simp [rwords] at h; subst h; rfl
  | 2 => simp [rwords] at h; subst h; rfl
  | 3 => simp [rwords] at h; subst h; rfl
  | 4 => simp [rwords] at h; subst h; rfl
  | 5 => simp [rwords] at h; subst h; exact absurd rfl hg
  | 6 => simp [rwords] at h; subst h; rfl
  | k + 7 => simp [rwords] at h
theorem rwords_no {t : List UInt8} (h : ∀ j, j < 7 → rwords[j]? ≠ some t) : rankW t = 7 := by
  unfold rankW
  rw [if_neg, if_neg, if_neg, if_neg, if_neg, if_neg]
  · rintro rfl; exact h 6 (by omega) rfl
  · rintro rfl; exact h 4 (by omega) rfl
  · rintro rfl; exact h 3 (by omega) rfl
  · rintro rfl; exact h 2 (by omega) rfl
  · rintro rfl; exact h 1 (by omega) rfl
  · rintro rfl; exact h 0 (by omega) rfl
set_option maxHeartbeats 4000000 in
theorem rank04 (p : Pt) (hp : p.nu = false → p.tx ≠ [103, 97]) (w : World) :
    Calls Tryd.prog 47 #[rtV p] w fun e w' => e = .returned (.int .i64 (rankP p)) ∧ Below w.heap.size w w' := by
  unfold rtV
  obtain ⟨hy, nu, tx⟩ := p
  have h : (str tx).toList = tx := by rw [ByteArray.toList_eq]; rfl
  simp only at hp ⊢
  generalize str tx = s at *
  subst h
  by_cases h0 : s.toList = []
  · have e0 : s.toList.isEmpty = true := by rw [h0]; rfl
    have hr : rankP ⟨hy, nu, s.toList⟩ = 5 := by simp [rankP, h0]
    have HR := Lib.hid hr; clear hr hp
    go_enter Tryd.func47, Tryd.ntmps47
    go_wp2
    go_ret
    exact ⟨ret_int HR.out.symm, (Below.refl _ _).alloc (Nat.le_refl _) _⟩
  · have e0 : s.toList.isEmpty = false := by simpa using h0
    cases nu
    · have hg := hp rfl
      have hr : rankP ⟨hy, false, s.toList⟩ = rankW s.toList := by simp [rankP, h0]
      have HR := Lib.hid hr; clear hr hp
      have HG := Lib.hid hg; clear hg
      go_enter Tryd.func47, Tryd.ntmps47
      go_wp2
      go_loop [14] (fun i => ∃ k : Nat, k ≤ 7 ∧ i = .int .i64 k ∧ ∀ j, j < k → rwords[j]? ≠ some s.toList) (fun i => 7 - (intOf i).toNat)
      case atStart => exact ⟨0, by omega, rfl, fun j h => by omega⟩
      case round =>
        obtain ⟨k, hk, rfl, hno⟩ := hrel
        have HNO := Lib.hid hno; clear hno
        have hks : k = 7 ∨ k = 0 ∨ k = 1 ∨ k = 2 ∨ k = 3 ∨ k = 4 ∨ k = 5 ∨ k = 6 := by omega
        have step : ∀ (u : List UInt8) (k : Nat), rwords[k]? = some u → ¬ s.toList = u → (∀ j, j < k → rwords[j]? ≠ some s.toList) → ∀ j, j < k + 1 → rwords[j]? ≠ some s.toList := by
          intro u k hu hne h j hj hjs
          by_cases hjk : j = k
          · subst hjk; rw [hu] at hjs; injection hjs with hjs; exact hne hjs.symm
          · exact h j (by omega) hjs
        have STEP := Lib.hid step; clear step
        rcases hks with rfl | hks
        · go_wp2
          go_ret
          exact ⟨ret_int (by rw [HR.out, rwords_no HNO.out]), ((Below.refl _ _).alloc (Nat.le_refl _) _).trans (((Below.refl _ _).alloc (Nat.le_refl _) _).mono (by simp))⟩
        · obtain ⟨u, hu⟩ : ∃ u, rwords[k]? = some u := ⟨_, List.getElem?_eq_getElem (by simp [rwords]; omega)⟩
          have HU := Lib.hid hu
          by_cases heq : s.toList = u
          · have HR2 := Lib.hid (show rankW s.toList = k from by rw [heq]; exact rwords_at hu (by rw [← heq]; exact HG.out))
            rcases hks with rfl | rfl | rfl | rfl | rfl | rfl | rfl
            all_goals
              simp only [rwords, List.getElem?_cons_succ, List.getElem?_cons_zero, Option.some.injEq] at hu
              subst hu
              go_wp2
              go_ret
              exact ⟨ret_int (by first | (rw [HR.out, HR2.out]; rfl) | (rw [← heq, HR.out, HR2.out]; rfl)), ((Below.refl _ _).alloc (Nat.le_refl _) _).trans (((Below.refl _ _).alloc (Nat.le_refl _) _).mono (by simp))⟩
          · obtain ⟨m, hm⟩ : ∃ m, m = k + 1 := ⟨_, rfl⟩
            have HQ := Lib.hid (STEP.out u k hu heq HNO.out)
            rw [← hm] at HQ
            have HM := Lib.hid hm; clear hm
            rcases hks with rfl | rfl | rfl | rfl | rfl | rfl | rfl
            all_goals
              simp only [rwords, List.getElem?_cons_succ, List.getElem?_cons_zero, Option.some.injEq] at hu
              subst hu
              go_wp2
              all_goals first
                | (exact ⟨⟨m, by have := HM.out; omega, by rw [HM.out]; rfl, HQ.out⟩, by simp [intOf]⟩)
                | (exfalso; simp_all; done)
    · have hr : rankP ⟨hy, true, s.toList⟩ = if hy then 8 else 9 := by simp [rankP, h0]
      have HR := Lib.hid hr; clear hr hp
      cases hy
      all_goals
        go_enter Tryd.func47, Tryd.ntmps47
        go_wp2
        go_ret
        exact ⟨ret_int HR.out.symm, (Below.refl _ _).alloc (Nat.le_refl _) _⟩
end Go.Proofs.YtnghagikchffiaaDoor
