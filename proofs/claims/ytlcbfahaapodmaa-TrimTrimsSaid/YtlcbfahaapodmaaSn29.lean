/-
  Layer 29: sign. Own work.
-/
import Derived.Test.YtlcbfahaapodmaaMk29
namespace Go.Proofs.Ytlcbfahaapodmaa
set_option linter.unusedVariables false
set_option linter.unusedSimpArgs false
open Go.RowKit

/-- the bits of a clause -/
def sgnM (vars : Nat) (c : List Int) : Nat := c.foldl (fun b n => b ||| 2 ^ (posN vars n % 64)) 0
theorem sgnM_snoc (vars : Nat) (c : List Int) (n : Int) : sgnM vars (c ++ [n]) = sgnM vars c ||| 2 ^ (posN vars n % 64) := by simp [sgnM]
theorem sgnM_lt (vars : Nat) (c : List Int) : sgnM vars c < 2 ^ 64 := by
  induction c using snoc_ind with
  | h0 => simp [sgnM]
  | h1 l n ih =>
    rw [sgnM_snoc]
    exact Nat.or_lt_two_pow ih (Nat.pow_lt_pow_right (by omega) (Nat.mod_lt _ (by omega)))
theorem sgnM_bit (vars : Nat) (c : List Int) (j : Nat) : (sgnM vars c).testBit j = c.any fun n => decide (posN vars n % 64 = j) := by
  induction c using snoc_ind with
  | h0 => simp [sgnM]
  | h1 l n ih =>
    rw [sgnM_snoc, Nat.testBit_or, ih, Nat.testBit_two_pow, List.any_append]
    simp
/-- the bits of a clause are among those of a wider one -/
theorem sgnM_sub {vars : Nat} {c d : List Int} (h : ∀ n ∈ c, n ∈ d) (j : Nat) (hj : (sgnM vars c).testBit j = true) : (sgnM vars d).testBit j = true := by
  rw [sgnM_bit] at hj ⊢
  obtain ⟨n, hn, h2⟩ := List.any_eq_true.1 hj
  exact List.any_eq_true.2 ⟨n, h n hn, h2⟩
theorem wrapU {z : Nat} (h : z < 18446744073709551616) : IntKind.u64.wrap (z : Int) = (z : Int) := by
  exact IntWalk.u64_in _ ⟨by omega, by omega⟩
theorem or_u64 {q m : Nat} (hq : q < 2 ^ 64) (hm : m < 2 ^ 64) : bits .or .u64 (q : Int) (m : Int) = ((q ||| m : Nat) : Int) := by
  have h1 : ∀ x : Nat, x < 2 ^ 64 → (BitVec.ofInt 64 (x : Int)).toNat = x := fun x hx => by
    rw [BitVec.ofInt_natCast, BitVec.toNat_ofNat]; exact Nat.mod_eq_of_lt hx
  show IntKind.u64.wrap ((BitVec.ofInt 64 (q : Int) ||| BitVec.ofInt 64 (m : Int)).toNat : Int) = _
  rw [BitVec.toNat_or, h1 q hq, h1 m hm]
  exact wrapU (Nat.or_lt_two_pow hq hm)
section
variable {w : World} {n0 : Nat} {M : Wm} {S : Ws} {ex : Tw → Prop}
set_option maxHeartbeats 4000000 in
set_option maxRecDepth 100000 in
theorem sign29_any (h : KW w n0 M S ex) (hx : ¬ ex .top) (vl : Value) (c : List Int) (hr : Reads w iV vl c) (hv : S.vars ≤ 100000) (hl : ∀ n ∈ c, -(S.vars : Int) ≤ n ∧ n ≤ (S.vars : Int)) :
    Calls Try.prog 39 #[.pointer (some ⟨M.K, 0, none⟩), vl] w fun e w' => e = .returned (.int .u64 (sgnM S.vars c : Int)) ∧ w' = w := by
  obtain ⟨la, lc, rfl, hlen, hcell⟩ : ∃ a c', vl = .slice a c.length c' ∧ c.length ≤ 9223372036854775807 ∧ ∀ (j : Nat) n, c[j]? = some n → ∃ b, a = some b ∧ w.cell? (b.add j) = some (iV n) := by
    rcases hr with ⟨rfl, rfl⟩ | ⟨a, cap, rfl, h1, h2, h3⟩
    · exact ⟨none, 0, rfl, by simp, fun j n h => by simp at h⟩
    · exact ⟨some a, cap, rfl, by omega, fun j n h => ⟨a, rfl, h3 j n h⟩⟩
  have HL := Lib.hid hcell
  have hlI : (c.length : Int) ≤ 9223372036854775807 := by omega
  have HK := Lib.hid h
  clear hr hlen hcell h
  go_enter Try.func39, Try.ntmps39
  go_wp2_with fail
  go_loop [5, 10] (fun z i => ∃ (k : Nat), k ≤ c.length ∧ i = .int .i64 k ∧ z = .int .u64 (sgnM S.vars (c.take k) : Int)) (fun _ i => c.length - (intOf i).toNat)
  case atStart => exact ⟨0, by omega, rfl, rfl⟩
  case round =>
    obtain ⟨k, hk, rfl, rfl⟩ := hrel
    by_cases hlt : k < c.length
    · obtain ⟨x, hxk⟩ : ∃ x, c[k]? = some x := ⟨_, List.getElem?_eq_getElem hlt⟩
      obtain ⟨b, rfl, hc⟩ := HL.out k x hxk
      have hc2 : w.cell? (b.add k) = some (.int .i64 x) := hc
      have hb2 := hl x (List.mem_of_getElem? hxk)
      obtain ⟨a, ha⟩ : ∃ a : Nat, x + (S.vars : Int) = (a : Int) := ⟨(x + (S.vars : Int)).toNat, by omega⟩
      have HAT := Lib.hid (at29_any HK.out hx x a ha (by omega))
      have haI : (a : Int) ≤ 1000000 := by omega
      have hkI : (k : Int) < (c.length : Int) := by omega
      have hpa : posN S.vars x = a := by unfold posN; rw [ha]; simp
      have HS := Lib.hid (show sgnM S.vars (c.take (k + 1)) = sgnM S.vars (c.take k) ||| 2 ^ (a % 64) from by rw [take_snoc _ k x hxk, sgnM_snoc, hpa])
      have HQ := Lib.hid (sgnM_lt S.vars (c.take k))
      have HM := Lib.hid (show (2 : Nat) ^ (a % 64) < 2 ^ 64 from Nat.pow_lt_pow_right (by omega) (Nat.mod_lt _ (by omega)))
      clear hc hxk ha hb2 hpa
      generalize sgnM S.vars (c.take k) = q at HS HQ
      have hwm : IntKind.u64.wrap (2 ^ (a % 64)) = ((2 ^ (a % 64) : Nat) : Int) := by
        have := wrapU (z := 2 ^ (a % 64)) HM.out
        rw [← this]; simp
      have HOR := Lib.hid (or_u64 HQ.out HM.out)
      go_wp2_with fail
      refine HAT.out.mono ?_
      rintro e w1 ⟨rfl, hw⟩
      obtain rfl : w = w1 := hw.symm
      go_wp2_with fail
      refine ⟨⟨k + 1, by omega, by go_num, ?_⟩, by simp [intOf]; omega⟩
      rw [HS.out, ← HOR.out]
      first | rfl | (rw [hwm]) | simp
    · have hkI : (c.length : Int) ≤ k := by omega
      have e : c.take k = c := List.take_of_length_le (by omega)
      have HE := Lib.hid e
      clear e
      go_wp2
      go_ret
      exact ⟨by rw [HE.out]; rfl, rfl⟩
end
end Go.Proofs.Ytlcbfahaapodmaa
