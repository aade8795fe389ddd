/-
  Layer 21: the contract of the answer's Holds, over rows of the call's own. Own work.
-/
import Derived.Test.YtlcbfahaapodmaaCount
namespace Go.Proofs.Ytlcbfahaapodmaa
set_option linter.unusedVariables false
set_option linter.unusedSimpArgs false
open Go.RowKit

theorem rows_at {w : World} {lo : Nat} {v : Value} {cs : List (List Int)} (h : RowsAt w lo v cs) (h0 : 0 < cs.length) : ∃ g cap, v = .slice (some ⟨g, 0, none⟩) cs.length cap ∧ cs.length ≤ cap ∧ cap ≤ 9223372036854775807 ∧ g < w.heap.size ∧
    ∀ (j : Nat) c, cs[j]? = some c → ∃ b bc, w.cell? ⟨g, j, none⟩ = some (.slice (some ⟨b, 0, none⟩) c.length bc) ∧ b < w.heap.size ∧ c.length ≤ bc ∧ bc ≤ 9223372036854775807 ∧ ∀ (i : Nat) n, c[i]? = some n → w.cell? ⟨b, i, none⟩ = some (.int .i64 n) := by
  obtain ⟨rows, ho, hr⟩ := h
  have ho' := ho
  rcases ho.2 with ⟨_, h'⟩ | ⟨g, cap, cur, rfl, _, hg, hn, hcm, _, _⟩
  · omega
  · refine ⟨g, cap, rfl, hn, by unfold maxLen at hcm; exact hcm, (Array.getElem?_eq_some_iff.1 hg).1, fun j c hj => ?_⟩
    obtain ⟨r, h1, h2⟩ := hr j c hj
    obtain ⟨b, bc, rfl, _, hb, h3, h4, h5⟩ := h2.cells
    have hjl : j < cs.length := (List.getElem?_eq_some_iff.1 hj).1
    have hc := ho'.cellAt j (by omega)
    exact ⟨b, bc, hc.trans h1, hb, h3, h4, h5⟩
theorem rows_shape {w : World} {lo : Nat} {v : Value} {cs : List (List Int)} (h : RowsAt w lo v cs) : ∃ a c, v = .slice a cs.length c := by
  obtain ⟨rows, ho, -⟩ := h
  rcases ho.2 with ⟨h, h0⟩ | ⟨g, cap, cur, h, _⟩
  · exact ⟨none, 0, by rw [h, h0]⟩
  · exact ⟨_, _, h⟩
/-- is one of these literals true? -/
def anyT (ts : List Bool) (c : List Int) : Bool := c.any fun n => trueB n ts
theorem anyT_snoc (ts : List Bool) (c : List Int) (q : Nat) (n : Int) (h : c[q]? = some n) : anyT ts (c.take (q + 1)) = (anyT ts (c.take q) || trueB n ts) := by
  unfold anyT
  rw [take_snoc _ q n h, List.any_append]; simp
def HoldsP (cs : List (List Int)) (ts : List Bool) (w : World) (e : Ending) (w' : World) : Prop :=
  (∃ r : Int, e = .returned (.int .i64 r) ∧ (r < 0 ↔ ∀ c ∈ cs, anyT ts c = true)) ∧ w = w'
theorem holds_all {cs : List (List Int)} {ts : List Bool} {j : Nat} (hj : j = cs.length) (h : ∀ c ∈ cs.take j, anyT ts c = true) : ((-1 : Int) < 0 ↔ ∀ c ∈ cs, anyT ts c = true) := by
  subst hj
  rw [List.take_length] at h
  exact ⟨fun _ => h, fun _ => by omega⟩
theorem holds_not {cs : List (List Int)} {ts : List Bool} {j : Nat} {c : List Int} (hc : cs[j]? = some c) (h : anyT ts c = false) : ((j : Int) < 0 ↔ ∀ c ∈ cs, anyT ts c = true) := by
  constructor
  · intro h; omega
  · intro ha
    have := ha c (List.mem_of_getElem? hc)
    rw [h] at this; cases this
theorem holds_step {cs : List (List Int)} {ts : List Bool} {j : Nat} {c : List Int} (hc : cs[j]? = some c) (h : anyT ts c = true) (h0 : ∀ c ∈ cs.take j, anyT ts c = true) : ∀ c ∈ cs.take (j + 1), anyT ts c = true := by
  intro d hd
  rw [take_snoc _ j c hc] at hd
  rcases List.mem_append.1 hd with hd | hd
  · exact h0 d hd
  · simp at hd; subst hd; exact h
set_option maxHeartbeats 2000000 in
theorem Holds_any (cv tv : Value) (cs : List (List Int)) (ts : List Bool) (lo : Nat) (w : World) (hc : RowsAt w lo cv cs) (ht : Reads w bV tv ts) (hn : cs.length ≤ 1000000) (hcl : ∀ (j : Nat) c, cs[j]? = some c → c.length ≤ 1000000) :
    Calls Try.prog 15 #[cv, tv] w (HoldsP cs ts w) := by
  by_cases h0 : cs.length = 0
  · obtain ⟨a, c, rfl⟩ := rows_shape hc
    obtain rfl := List.eq_nil_of_length_eq_zero h0
    clear hc hcl ht
    go_enter Try.func15, Try.ntmps15
    go_wp2_with fail
    go_loop [12] (fun i => i = .int .i64 0) (fun _ => 0)
    case atStart => rfl
    case round =>
      obtain rfl := hrel
      go_wp2
      go_ret
      exact ⟨⟨_, rfl, holds_all (j := 0) rfl (by simp)⟩, rfl⟩
  obtain ⟨g, cap, rfl, a1, a2, a3, a4⟩ := rows_at hc (by omega)
  have HA := Lib.hid a4; clear a4
  have HCL := Lib.hid hcl; clear hcl hc h0
  have hnl : (cs.length : Int) ≤ 1000000 := by omega
  have hct := fun n => True_any n tv ts w ht
  have HT := Lib.hid hct; clear hct ht
  go_enter Try.func15, Try.ntmps15
  go_wp2_with fail
  go_loop [12] (fun i => ∃ j : Nat, j ≤ cs.length ∧ i = .int .i64 j ∧ ∀ c ∈ cs.take j, anyT ts c = true) (fun i => cs.length - (intOf i).toNat)
  case atStart => exact ⟨0, by omega, rfl, by simp⟩
  case round =>
    obtain ⟨j, hj, rfl, hh⟩ := hrel
    have HH := Lib.hid hh; clear hh
    by_cases hlt : j < cs.length
    · obtain ⟨c, hcj⟩ : ∃ c, cs[j]? = some c := ⟨_, List.getElem?_eq_getElem hlt⟩
      obtain ⟨b, bc, p1, p2, p3, p4, p5⟩ := HA.out j c hcj
      have hcl := HCL.out j c hcj
      have HP := Lib.hid p5; clear p5
      have HCJ := Lib.hid hcj; clear hcj
      have hclI : (c.length : Int) ≤ 1000000 := by omega
      go_wp2_with fail
      go_loop [7, 19] (fun ok i => ∃ q : Nat, q ≤ c.length ∧ i = .int .i64 q ∧ ok = .bool (anyT ts (c.take q))) (fun _ i => c.length - (intOf i).toNat)
      case atStart => exact ⟨0, by omega, rfl, rfl⟩
      case round =>
        obtain ⟨q, hq, rfl, rfl⟩ := hrel
        by_cases hlt2 : q < c.length
        · obtain ⟨n, hn⟩ : ∃ n, c[q]? = some n := ⟨_, List.getElem?_eq_getElem hlt2⟩
          have hci := HP.out q n hn
          have HS := Lib.hid (anyT_snoc ts c q n hn)
          have HTN := Lib.hid (HT.out n)
          clear hn
          generalize anyT ts (c.take q) = ok at HS ⊢
          cases ok
          · generalize trueB n ts = t at HTN HS
            go_wp2_with fail
            refine HTN.out.mono ?_
            rintro e w2 ⟨rfl, rfl⟩
            go_wp2
            exact ⟨⟨q + 1, by omega, by go_num, by rw [HS.out]; rfl⟩, by simp [intOf]; omega⟩
          · go_wp2
            exact ⟨⟨q + 1, by omega, by go_num, by rw [HS.out]; rfl⟩, by simp [intOf]; omega⟩
        · have hql : (c.length : Int) ≤ q := by omega
          have htk : c.take q = c := List.take_of_length_le (by omega)
          rw [htk]
          have HOK := Lib.hid (rfl : anyT ts c = anyT ts c)
          generalize hok : anyT ts c = ok
          have HOK2 := Lib.hid hok; clear hok
          cases ok
          · go_wp2
            go_ret
            exact ⟨⟨_, rfl, holds_not HCJ.out HOK2.out⟩, rfl⟩
          · go_wp2
            go_roundw
            case rel => first | exact ⟨j + 1, by omega, by go_num, holds_step HCJ.out HOK2.out HH.out⟩ | ((repeat apply Exists.intro); exact ⟨⟨j + 1, by omega, by go_num, holds_step HCJ.out HOK2.out HH.out⟩, rfl⟩)
            case measure => simp [intOf]; omega
    · have hjl : j = cs.length := by omega
      have hjl2 : (cs.length : Int) ≤ j := by omega
      have HJL := Lib.hid hjl; clear hjl
      go_wp2
      go_ret
      exact ⟨⟨_, rfl, holds_all HJL.out HH.out⟩, rfl⟩
end Go.Proofs.Ytlcbfahaapodmaa
