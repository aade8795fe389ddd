/-
  Layer 29: Same: whether rows are the same. Own work.
-/
import Derived.Test.YtlcbfahaapodmaaLg29
import Derived.Deep.QuietTactic
import Derived.BigQuiet
namespace Go.Proofs.Ytlcbfahaapodmaa
set_option linter.unusedVariables false
set_option linter.unusedSimpArgs false
open Go.RowKit

theorem drewN_grown (w : World) (m : Nat) : w.grownBy (w.drewN m) none := ⟨rfl, rfl, rfl, Nat.le_refl _, fun _ _ _ => rfl⟩
theorem take_next {α : Type} {l m : List α} {i : Nat} {x : α} (h : l.take i = m.take i) (hl : l[i]? = some x) (hm : m[i]? = some x) : l.take (i + 1) = m.take (i + 1) := by
  rw [take_snoc _ i x hl, take_snoc _ i x hm, h]
section
set_option maxRecDepth 100000 in
set_option maxHeartbeats 2000000 in
theorem Same29_any {cs ds : List (List Int)} (cv dv : Value) (w : World) (hc : Reads2 w cv cs) (hd : Reads2 w dv ds) :
    Calls Try.prog 12 #[cv, dv] w fun e w' => e = .returned (.bool (decide (cs = ds))) ∧ w.grownBy w' none := by
  have HC := Lib.hid hc
  have HD := Lib.hid hd
  obtain ⟨ca, cp, rfl, hcl, _⟩ := hc
  obtain ⟨da, dp, rfl, hdl, _⟩ := hd
  have hclI : (cs.length : Int) ≤ 9223372036854775807 := by omega
  have hdlI : (ds.length : Int) ≤ 9223372036854775807 := by omega
  clear hcl hdl
  by_cases hll : cs.length = ds.length
  · have hlb : ((cs.length : Int) == (ds.length : Int)) = true := by rw [hll]; simp
    have HLL := Lib.hid hll
    clear hll
    go_enter Try.func12, Try.ntmps12
    go_wp2_with fail
    go_loopw [14] (fun q wr => ∃ i : Nat, i ≤ cs.length ∧ q = .int .i64 i ∧ w.grownBy wr none ∧ cs.take i = ds.take i) (fun q _ => cs.length - (intOf q).toNat)
    case atStart => exact ⟨0, by omega, rfl, World.grownBy.refl _ _, rfl⟩
    case round =>
      obtain ⟨i, hi, rfl, hg, ht⟩ := hrel
      have HG := Lib.hid hg
      have HT := Lib.hid ht
      clear ht
      by_cases hlt : i < cs.length
      · obtain ⟨c, hci⟩ : ∃ c, cs[i]? = some c := ⟨_, List.getElem?_eq_getElem hlt⟩
        obtain ⟨d, hdi⟩ : ∃ d, ds[i]? = some d := ⟨_, List.getElem?_eq_getElem (by have := HLL.out; omega)⟩
        obtain ⟨_, _, e0, _, hrw⟩ := HC.out.kept hg
        cases e0
        obtain ⟨b1, r1, rfl, hrc1, hrd1⟩ := hrw i c hci
        obtain ⟨xa, xc, rfl, hxl, hxe⟩ := reads_shape hrd1
        obtain ⟨_, _, e0, _, hrw2⟩ := HD.out.kept hg
        cases e0
        obtain ⟨b2, r2, rfl, hrc2, hrd2⟩ := hrw2 i d hdi
        obtain ⟨ya, yc, rfl, hyl, hye⟩ := reads_shape hrd2
        have hiI : (i : Int) < (cs.length : Int) := by omega
        have hiJ : (i : Int) < (ds.length : Int) := by have := HLL.out; omega
        have hxlI : (c.length : Int) ≤ 9223372036854775807 := by omega
        have hylI : (d.length : Int) ≤ 9223372036854775807 := by omega
        have HX := Lib.hid hxe
        have HY := Lib.hid hye
        have HCI := Lib.hid hci
        have HDI := Lib.hid hdi
        clear hrw hrw2 hrd1 hrd2 hxe hye hci hdi hxl hyl hg
        by_cases hcd : c.length = d.length
        · have hcdb : ((c.length : Int) == (d.length : Int)) = true := by rw [hcd]; simp
          have HCD := Lib.hid hcd
          clear hcd
          go_upto_region 6 with fail
          go_quiet (fail)
          go_wp2_with fail
          go_loopw [33] (fun q wx => ∃ j : Nat, j ≤ c.length ∧ q = .int .i64 j ∧ wr.grownBy wx none ∧ c.take j = d.take j) (fun q _ => c.length - (intOf q).toNat)
          case atStart => exact ⟨0, by omega, rfl, drewN_grown _ _, rfl⟩
          case round =>
            obtain ⟨j, hj, rfl, hg2, ht2⟩ := hrel
            have HG2 := Lib.hid hg2
            have HT2 := Lib.hid ht2
            clear ht2
            have k1 := hg2.cell hrc1 (by simp)
            have k2 := hg2.cell hrc2 (by simp)
            by_cases hlt2 : j < c.length
            · obtain ⟨x, hxj⟩ : ∃ x, c[j]? = some x := ⟨_, List.getElem?_eq_getElem hlt2⟩
              obtain ⟨y, hyj⟩ : ∃ y, d[j]? = some y := ⟨_, List.getElem?_eq_getElem (by have := HCD.out; omega)⟩
              obtain ⟨b3, rfl, hx3⟩ := HX.out j x hxj
              obtain ⟨b4, rfl, hy4⟩ := HY.out j y hyj
              have l1 : wr.cell? (b3.add j) = some (.int .i64 x) := hg2.cell hx3 (by simp)
              have l2 : wr.cell? (b4.add j) = some (.int .i64 y) := hg2.cell hy4 (by simp)
              have hjI : (j : Int) < (c.length : Int) := by omega
              have hjJ : (j : Int) < (d.length : Int) := by have := HCD.out; omega
              have HXJ := Lib.hid hxj
              have HYJ := Lib.hid hyj
              clear hx3 hy4 hxj hyj hg2
              by_cases hxy : x = y
              · have hxyb : (x == y) = true := by simp [hxy]
                have HN := Lib.hid (take_next HT2.out HXJ.out (by rw [hxy]; exact HYJ.out))
                clear hxy
                go_upto_region 11 with fail
                go_quiet (fail)
                go_wp2_with fail
                go_round
                case rel => exact ⟨j + 1, by omega, by go_num, HG2.out.trans (drewN_grown _ _), HN.out⟩
                case measure => simp [intOf]; omega
              · have hxyb : (x == y) = false := by simpa using hxy
                have HNE := Lib.hid (show decide (cs = ds) = false from decide_eq_false (fun e => by
                  subst e
                  have h1 := HCI.out.symm.trans HDI.out
                  cases h1
                  have h2 := HXJ.out.symm.trans HYJ.out
                  cases h2
                  exact hxy rfl))
                clear hxy
                go_upto_region 11 with fail
                go_quiet (fail)
                go_wp2
                go_ret
                exact ⟨ret_bool HNE.out.symm, (HG.out.trans HG2.out).trans (drewN_grown _ _)⟩
            · have hjI : (c.length : Int) ≤ (j : Int) := by omega
              have HN := Lib.hid (take_next HT.out HCI.out (show ds[i]? = some c from by
                rw [HDI.out]
                have h1 := HT2.out
                rw [List.take_of_length_le (by omega), List.take_of_length_le (by have := HCD.out; omega)] at h1
                rw [h1]))
              clear hg2
              go_wp2_with fail
              go_round
              case rel => exact ⟨i + 1, by omega, by go_num, HG.out.trans HG2.out, HN.out⟩
              case measure => simp [intOf]; omega
        · have hcdb : ((c.length : Int) == (d.length : Int)) = false := by simp; omega
          have HNE := Lib.hid (show decide (cs = ds) = false from decide_eq_false (fun e => by
            subst e
            have h1 := HCI.out.symm.trans HDI.out
            cases h1
            exact hcd rfl))
          clear hcd
          go_upto_region 6 with fail
          go_quiet (fail)
          go_wp2
          go_ret
          exact ⟨ret_bool HNE.out.symm, HG.out.trans (drewN_grown _ _)⟩
      · have hle : (cs.length : Int) ≤ i := by omega
        have HEQ := Lib.hid (show decide (cs = ds) = true from decide_eq_true (by
          have h1 := HT.out
          rw [List.take_of_length_le (by omega), List.take_of_length_le (by have := HLL.out; omega)] at h1
          exact h1))
        clear hg
        go_wp2
        go_ret
        exact ⟨ret_bool HEQ.out.symm, HG.out⟩
  · have hlb : ((cs.length : Int) == (ds.length : Int)) = false := by simp; omega
    have HNE := Lib.hid (show decide (cs = ds) = false from decide_eq_false (fun e => hll (by rw [e])))
    clear hll
    go_enter Try.func12, Try.ntmps12
    go_wp2
    go_ret
    exact ⟨ret_bool HNE.out.symm, World.grownBy.refl _ _⟩
end
end Go.Proofs.Ytlcbfahaapodmaa
