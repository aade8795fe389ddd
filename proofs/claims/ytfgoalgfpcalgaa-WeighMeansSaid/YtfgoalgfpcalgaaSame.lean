/-
  Layer 21: the contract of same at rows that are the same. Own work.
-/
import Derived.Test.YtfgoalgfpcalgaaLives21
import Derived.Deep.QuietTactic
import Derived.BigQuiet
namespace Go.Proofs.Ytfgoalgfpcalgaa
set_option linter.unusedVariables false
set_option linter.unusedSimpArgs false
open Go.RowKit

theorem RowsAt.shape {w : World} {lo : Nat} {v : Value} {cs : List (List Int)} (h : RowsAt w lo v cs) : ∃ a c, v = .slice a cs.length c := by
  obtain ⟨rows, ho, -⟩ := h
  rcases ho.2 with ⟨h, h0⟩ | ⟨g, cap, cur, h, _⟩
  · exact ⟨none, 0, by rw [h, h0]⟩
  · exact ⟨_, _, h⟩
theorem belowN {A : Nat} {w w1 : World} (h : Below A w w1) (n : Nat) : Below A w (w1.drewN n) := h.trans ⟨rfl, rfl, rfl, Nat.le_refl _, fun _ _ => rfl⟩
set_option maxHeartbeats 2000000 in
theorem same_any (va vb : Value) (cs : List (List Int)) (lo lo' : Nat) (w : World) (ha : RowsAt w lo va cs) (hb : RowsAt w lo' vb cs) (hn : cs.length ≤ 1000000) (hc : ∀ (j : Nat) c, cs[j]? = some c → c.length ≤ 1000000) :
    Calls Try.prog 10 #[va, vb] w fun e w' => e = .returned (.bool true) ∧ Below w.heap.size w w' := by
  by_cases h0 : cs.length = 0
  · obtain ⟨a, c, rfl⟩ := ha.shape
    obtain ⟨a', c', rfl⟩ := hb.shape
    rw [h0]
    clear ha hb
    go_enter Try.func10, Try.ntmps10
    go_wp2_with fail
    go_loopw [14] (fun i wr => i = .int .i64 0 ∧ wr = w) (fun _ _ => 0)
    case atStart => exact ⟨rfl, rfl⟩
    case round =>
      obtain ⟨rfl, rfl⟩ := hrel
      go_wp2
      go_ret
      exact ⟨rfl, Below.refl _ _⟩
  obtain ⟨g, cap, rfl, a1, a2, a3, a4⟩ := ha.at (by omega)
  obtain ⟨g', cap', rfl, b1, b2, b3, b4⟩ := hb.at (by omega)
  have HA := Lib.hid a4; clear a4
  have HB := Lib.hid b4; clear b4
  have HC := Lib.hid hc; clear hc ha hb h0
  have hnl : (cs.length : Int) ≤ 1000000 := by omega
  go_enter Try.func10, Try.ntmps10
  go_wp2_with fail
  go_loopw [14] (fun i wr => ∃ j : Nat, j ≤ cs.length ∧ i = .int .i64 j ∧ Below w.heap.size w wr) (fun i _ => cs.length - (intOf i).toNat)
  case atStart => exact ⟨0, by omega, rfl, Below.refl _ _⟩
  case round =>
    obtain ⟨j, hj, rfl, hbw⟩ := hrel
    by_cases hlt : j < cs.length
    · obtain ⟨c, hcj⟩ : ∃ c, cs[j]? = some c := ⟨_, List.getElem?_eq_getElem hlt⟩
      obtain ⟨b, bc, p1, p2, p3, p4, p5⟩ := HA.out j c hcj
      obtain ⟨b', bc', q1, q2, q3, q4, q5⟩ := HB.out j c hcj
      have hcl := HC.out j c hcj
      have HP := Lib.hid p5; clear p5
      have HQ := Lib.hid q5; clear q5
      have HCJ := Lib.hid hcj; clear hcj
      have r1 := (hbw.cell (p := ⟨g, j, none⟩) a3).trans p1
      have r2 := (hbw.cell (p := ⟨g', j, none⟩) b3).trans q1
      have HBW := Lib.hid hbw
      have HRA := Lib.hid p1
      have HRB := Lib.hid q1
      clear hbw p1 q1
      have hj0 : (0 : Int) ≤ j := by omega
      have hj1 : (j : Int) < cs.length := by omega
      go_wp2_with fail
      go_quiet (fail)
      go_wp2_with fail
      clear r1 r2
      go_loopw [33] (fun i wr2 => ∃ q : Nat, q ≤ c.length ∧ i = .int .i64 q ∧ Below w.heap.size w wr2) (fun i _ => c.length - (intOf i).toNat)
      case atStart => exact ⟨0, by omega, rfl, belowN HBW.out _⟩
      case round =>
        obtain ⟨q, hq, rfl, hbw2⟩ := hrel
        by_cases hlt2 : q < c.length
        · obtain ⟨n, hn⟩ : ∃ n, c[q]? = some n := ⟨_, List.getElem?_eq_getElem hlt2⟩
          have P1 := (hbw2.cell (p := ⟨g, j, none⟩) a3).trans HRA.out
          have P2 := (hbw2.cell (p := ⟨g', j, none⟩) b3).trans HRB.out
          have P3 := (hbw2.cell (p := ⟨b, q, none⟩) p2).trans (HP.out q n hn)
          have P4 := (hbw2.cell (p := ⟨b', q, none⟩) q2).trans (HQ.out q n hn)
          have HBW2 := Lib.hid hbw2; clear hbw2 hn
          have hq0 : (0 : Int) ≤ q := by omega
          have hq1 : (q : Int) < c.length := by omega
          go_wp2_with fail
          go_quiet (fail)
          go_wp2
          go_roundw
          case rel => exact ⟨q + 1, by omega, by go_num, belowN HBW2.out _⟩
          case measure => simp [intOf]; omega
        · have hql : (c.length : Int) ≤ q := by omega
          go_wp2
          go_roundw
          case rel => first | exact ⟨j + 1, by omega, by go_num, hbw2⟩ | ((repeat apply Exists.intro); exact ⟨⟨j + 1, by omega, by go_num, hbw2⟩, rfl⟩)
          case measure => simp [intOf]; omega
    · have hjl : (cs.length : Int) ≤ j := by omega
      go_wp2
      go_ret
      exact ⟨rfl, hbw⟩
end Go.Proofs.Ytfgoalgfpcalgaa
