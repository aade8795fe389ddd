/-
  Layer 16: the contract of proof's isTrue. Own work.
-/
import Derived.Test.YtmiiclhhenepiaaCount
namespace Go.Proofs.Ytmiiclhhenepiaa
set_option linter.unusedVariables false
set_option linter.unusedSimpArgs false
open Go.RowKit

theorem reads_shape {α : Type} {w : World} {f : α → Value} {v : Value} {l : List α} (h : Reads w f v l) : ∃ a c, v = .slice a l.length c ∧ l.length ≤ 9223372036854775807 ∧ ∀ (j : Nat) n, l[j]? = some n → ∃ b, a = some b ∧ w.cell? (b.add j) = some (f n) := by
  rcases h with ⟨rfl, rfl⟩ | ⟨a, cap, rfl, h1, h2, h3⟩
  · exact ⟨none, 0, rfl, by simp, fun j n h => by simp at h⟩
  · exact ⟨some a, cap, rfl, by omega, fun j n h => ⟨a, rfl, h3 j n h⟩⟩
set_option maxHeartbeats 1000000 in
theorem isTrue_any (n : Int) (hn : -9223372036854775808 < n ∧ n ≤ 9223372036854775807) (tv : Value) (ts : List Bool) (w : World) (ht : Reads w bV tv ts) :
    Calls Try.prog 19 #[.int .i64 n, tv] w fun e w' => e = .returned (.bool (trueB n ts)) ∧ w' = w := by
  obtain ⟨ta, tc, rfl, hlen, hcell⟩ := reads_shape ht
  have hlI : (ts.length : Int) ≤ 9223372036854775807 := by omega
  clear ht hlen
  rcases Int.lt_trichotomy n 0 with hneg | h0 | hpos
  · obtain ⟨p, hp⟩ : ∃ p : Nat, -n - 1 = (p : Int) := ⟨(-n - 1).toNat, by omega⟩
    have HT := Lib.hid (trueB_neg n ts (by omega))
    have hng : ¬ 0 < n := by omega
    have hw1 : IntKind.i64.wrap (-n) = -n := by rw [IntWalk.i64_in _ (by omega)]
    by_cases hlt : p < ts.length
    · obtain ⟨t, htp⟩ : ∃ t, ts[p]? = some t := ⟨_, List.getElem?_eq_getElem hlt⟩
      obtain ⟨b, rfl, hc⟩ := hcell p t htp
      have HV := Lib.hid (show trueB n ts = !t from by rw [HT.out, hp, Int.toNat_natCast, List.getD_eq_getElem?_getD, htp]; rfl)
      have hge : ¬ n < -(ts.length : Int) := by omega
      have hpI : (p : Int) < (ts.length : Int) := by omega
      have hc2 : w.cell? (b.add p) = some (.bool t) := hc
      clear hc hcell htp HT
      go_enter Try.func19, Try.ntmps19
      go_wp2
      go_ret
      exact ⟨ret_bool HV.out.symm, rfl⟩
    · have HV := Lib.hid (show trueB n ts = true from by rw [HT.out, hp, Int.toNat_natCast, List.getD_eq_getElem?_getD, List.getElem?_eq_none (by omega)]; rfl)
      have hlt2 : n < -(ts.length : Int) := by omega
      clear hcell HT
      go_enter Try.func19, Try.ntmps19
      go_wp2
      go_ret
      exact ⟨ret_bool HV.out.symm, rfl⟩
  · subst h0
    have HV := Lib.hid (show trueB 0 ts = false from by
      have : ∀ (ts : List Bool) (i : Nat), trueFrom 0 i ts = false := by
        intro ts
        induction ts with
        | nil => intro i; simp [trueFrom]
        | cons t r ih => intro i; rw [trueFrom, if_neg (by omega), if_neg (by omega)]; exact ih (i + 1)
      exact this ts 0)
    clear hcell
    go_enter Try.func19, Try.ntmps19
    go_wp2
    go_ret
    exact ⟨ret_bool HV.out.symm, rfl⟩
  · obtain ⟨p, hp⟩ : ∃ p : Nat, n - 1 = (p : Int) := ⟨(n - 1).toNat, by omega⟩
    have HT := Lib.hid (trueB_pos n ts (by omega))
    by_cases hlt : p < ts.length
    · obtain ⟨t, htp⟩ : ∃ t, ts[p]? = some t := ⟨_, List.getElem?_eq_getElem hlt⟩
      obtain ⟨b, rfl, hc⟩ := hcell p t htp
      have HV := Lib.hid (show trueB n ts = t from by rw [HT.out, hp, Int.toNat_natCast, List.getD_eq_getElem?_getD, htp]; rfl)
      have hle : n ≤ (ts.length : Int) := by omega
      have hpI : (p : Int) < (ts.length : Int) := by omega
      have hc2 : w.cell? (b.add p) = some (.bool t) := hc
      clear hc hcell htp HT
      go_enter Try.func19, Try.ntmps19
      go_wp2
      go_ret
      exact ⟨ret_bool HV.out.symm, rfl⟩
    · have HV := Lib.hid (show trueB n ts = false from by rw [HT.out, hp, Int.toNat_natCast, List.getD_eq_getElem?_getD, List.getElem?_eq_none (by omega)]; rfl)
      have hle : ¬ n ≤ (ts.length : Int) := by omega
      clear hcell HT
      go_enter Try.func19, Try.ntmps19
      go_wp2
      go_ret
      exact ⟨ret_bool HV.out.symm, rfl⟩
end Go.Proofs.Ytmiiclhhenepiaa
