/-
  Layer 17: pomaceref16.Holds once more, for who asks whether it answers -1. Own work.
-/
import Derived.Test.YtgfgajekegfdgaaHold21
namespace Go.Proofs.Ytgfgajekegfdgaa
set_option linter.unusedVariables false
set_option linter.unusedSimpArgs false
open Go.RowKit

def HoldsQ (cs : List (List Int)) (ts : List Bool) (w : World) (e : Ending) (w' : World) : Prop :=
  (∃ r : Int, e = .returned (.int .i64 r) ∧ (r = -1 ↔ ∀ c ∈ cs, anyT ts c = true)) ∧ w = w'
theorem holds_all1 {cs : List (List Int)} {ts : List Bool} {j : Nat} (hj : j = cs.length) (h : ∀ c ∈ cs.take j, anyT ts c = true) : ((-1 : Int) = -1 ↔ ∀ c ∈ cs, anyT ts c = true) := by
  subst hj
  rw [List.take_length] at h
  exact ⟨fun _ => h, fun _ => rfl⟩
theorem holds_not1 {cs : List (List Int)} {ts : List Bool} {j : Nat} {c : List Int} (hc : cs[j]? = some c) (h : anyT ts c = false) : ((j : Int) = -1 ↔ ∀ c ∈ cs, anyT ts c = true) := by
  constructor
  · intro h; omega
  · intro ha
    have := ha c (List.mem_of_getElem? hc)
    rw [h] at this; cases this
set_option maxHeartbeats 2000000 in
theorem Holds_one (cv tv : Value) (cs : List (List Int)) (ts : List Bool) (lo : Nat) (w : World) (hc : RowsAt w lo cv cs) (ht : Reads w bV tv ts) (hn : cs.length ≤ 1000000) (hcl : ∀ (j : Nat) c, cs[j]? = some c → c.length ≤ 1000000) :
    Calls Try.prog 19 #[cv, tv] w (HoldsQ cs ts w) := by
  by_cases h0 : cs.length = 0
  · obtain ⟨a, c, rfl⟩ := rows_shape hc
    obtain rfl := List.eq_nil_of_length_eq_zero h0
    clear hc hcl ht
    go_enter Try.func19, Try.ntmps19
    go_wp2_with fail
    go_loop [12] (fun i => i = .int .i64 0) (fun _ => 0)
    case atStart => rfl
    case round =>
      obtain rfl := hrel
      go_wp2
      go_ret
      exact ⟨⟨_, rfl, holds_all1 (j := 0) rfl (by simp)⟩, rfl⟩
  obtain ⟨g, cap, rfl, a1, a2, a3, a4⟩ := rows_at hc (by omega)
  have HA := Lib.hid a4; clear a4
  have HCL := Lib.hid hcl; clear hcl hc h0
  have hnl : (cs.length : Int) ≤ 1000000 := by omega
  have hct := fun n => True_any n tv ts w ht
  have HT := Lib.hid hct; clear hct ht
  go_enter Try.func19, Try.ntmps19
  go_wp2_with fail
  go_loop [12] (fun i => ∃ j : Nat, j ≤ cs.length ∧ i = .int .i64 j ∧ ∀ c ∈ cs.take j, anyT ts c = true) (fun i => cs.length - (intOf i).toNat)
  case atStart => exact ⟨0, by omega, rfl, by simp⟩
  case round =>
    obtain ⟨j, hj, rfl, hh⟩ := hrel
    have HH := Lib.hid hh; clear hh
    by_cases hlt : j < cs.length
    · obtain ⟨c, hcj⟩ : ∃ c, cs[j]? = some c := ⟨_, List.getElem?_eq_getElem hlt⟩
      obtain ⟨b, bc, p1, p2, p3, p4, p5⟩ := HA.out j c hcj
      have hcl := HCL.out j c hcj
      have HP := Lib.hid p5; clear p5
      have HCJ := Lib.hid hcj; clear hcj
      have hclI : (c.length : Int) ≤ 1000000 := by omega
      go_wp2_with fail
      go_loop [7, 19] (fun ok i => ∃ q : Nat, q ≤ c.length ∧ i = .int .i64 q ∧ ok = .bool (anyT ts (c.take q))) (fun _ i => c.length - (intOf i).toNat)
      case atStart => exact ⟨0, by omega, rfl, rfl⟩
      case round =>
        obtain ⟨q, hq, rfl, rfl⟩ := hrel
        by_cases hlt2 : q < c.length
        · obtain ⟨n, hn⟩ : ∃ n, c[q]? = some n := ⟨_, List.getElem?_eq_getElem hlt2⟩
          have hci := HP.out q n hn
          have HS := Lib.hid (anyT_snoc ts c q n hn)
          have HTN := Lib.hid (HT.out n)
          clear hn
          generalize anyT ts (c.take q) = ok at HS ⊢
          cases ok
          · generalize trueB n ts = t at HTN HS
            go_wp2_with fail
            refine HTN.out.mono ?_
            rintro e w2 ⟨rfl, rfl⟩
            go_wp2
            exact ⟨⟨q + 1, by omega, by go_num, by rw [HS.out]; rfl⟩, by simp [intOf]; omega⟩
          · go_wp2
            exact ⟨⟨q + 1, by omega, by go_num, by rw [HS.out]; rfl⟩, by simp [intOf]; omega⟩
        · have hql : (c.length : Int) ≤ q := by omega
          have htk : c.take q = c := List.take_of_length_le (by omega)
          rw [htk]
          have HOK := Lib.hid (rfl : anyT ts c = anyT ts c)
          generalize hok : anyT ts c = ok
          have HOK2 := Lib.hid hok; clear hok
          cases ok
          · go_wp2
            go_ret
            exact ⟨⟨_, rfl, holds_not1 HCJ.out HOK2.out⟩, rfl⟩
          · go_wp2
            go_roundw
            case rel => first | exact ⟨j + 1, by omega, by go_num, holds_step HCJ.out HOK2.out HH.out⟩ | ((repeat apply Exists.intro); exact ⟨⟨j + 1, by omega, by go_num, holds_step HCJ.out HOK2.out HH.out⟩, rfl⟩)
            case measure => simp [intOf]; omega
    · have hjl : j = cs.length := by omega
      have hjl2 : (cs.length : Int) ≤ j := by omega
      have HJL := Lib.hid hjl; clear hjl
      go_wp2
      go_ret
      exact ⟨⟨_, rfl, holds_all1 HJL.out HH.out⟩, rfl⟩
end Go.Proofs.Ytgfgajekegfdgaa
