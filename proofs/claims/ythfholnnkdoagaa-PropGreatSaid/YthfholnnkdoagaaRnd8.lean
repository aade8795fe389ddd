/-
  Layer 8: the answer's Number; properties that need one another in a line or round about. Own work.
-/
import Derived.Test.YthfholnnkdoagaaBth8
import Derived.Lib.ConvBytes
namespace Go.Proofs.Ythfholnnkdoagaa
set_option linter.unusedVariables false
set_option linter.unusedSimpArgs false
open Go.RowKit

theorem conv_one8 (w : World) (n : Int) : (convert 57 9 (.slice (some ⟨w.heap.size, 0, none⟩) 1 1)).run Try.prog (w.alloc (.cells #[.int .u8 n] 5)) = .ok (.string (str [UInt8.ofNat n.toNat])) (w.alloc (.cells #[.int .u8 n] 5)) :=
  run_convert_bytes_arg (P := Try.prog) (w.alloc (.cells #[.int .u8 n] 5)) 57 5 Try.underlying57 Try.underlying5 w.heap.size 0 1 1 [n] rfl (fun i hi => by
    match i with
    | 0 => simp [go_sem]
    | i + 1 => omega) 9 Try.underlying9
theorem conv_at8 (W : World) (b : Nat) (n : Int) (h : W.cell? ⟨b, 0, none⟩ = some (.int .u8 n)) : (convert 57 9 (.slice (some ⟨b, 0, none⟩) 1 1)).run Try.prog W = .ok (.string (str [UInt8.ofNat n.toNat])) W :=
  run_convert_bytes_arg (P := Try.prog) W 57 5 Try.underlying57 Try.underlying5 b 0 1 1 [n] rfl (fun i hi => by
    match i with
    | 0 => exact h
    | i + 1 => omega) 9 Try.underlying9
def dec8 (n : Nat) : List UInt8 := if n < 10 then [UInt8.ofNat (48 + n)] else [UInt8.ofNat (48 + n / 10), UInt8.ofNat (48 + n % 10)]
set_option maxRecDepth 100000 in
set_option maxHeartbeats 1000000 in
theorem num8_one (n : Nat) (h : n < 10) (w : World) :
    Calls Try.prog 28 #[.int .i64 (n : Int)] w fun e w' => e = .returned (.string (str [UInt8.ofNat (48 + n)])) ∧ Below w.heap.size w w' := by
  have hmI : (n : Int) < 10 := by omega
  have hc := conv_one8 w (48 + (n : Int))
  rw [show (48 + (n : Int)).toNat = 48 + n by omega] at hc
  have hmod : ((48 + (n : Int)) % 256) = 48 + (n : Int) := by omega
  have hw : IntKind.i64.wrap (48 + (n : Int)) = 48 + (n : Int) := by rw [IntWalk.i64_in _ (by omega)]
  have hb : Below w.heap.size w (w.alloc (.cells #[.int .u8 (48 + (n : Int))] 5)) := (Below.refl _ _).alloc (Nat.le_refl _) _
  have HB := Lib.hid hb
  generalize str [UInt8.ofNat (48 + n)] = sx at hc ⊢
  clear hb
  go_enter Try.func28, Try.ntmps28
  go_wp2
  go_ret
  exact ⟨rfl, HB.out⟩
set_option maxRecDepth 100000 in
set_option maxHeartbeats 1000000 in
theorem num8_any (n : Nat) (h : n < 100) (w : World) :
    Calls Try.prog 28 #[.int .i64 (n : Int)] w fun e w' => e = .returned (.string (str (dec8 n))) ∧ Below w.heap.size w w' := by
  by_cases h10 : n < 10
  · unfold dec8
    rw [if_pos h10]
    exact num8_one n h10 w
  · unfold dec8
    rw [if_neg h10]
    have HN := Lib.hid (fun w => num8_one (n / 10) (by omega) w)
    have hmI : ¬ (n : Int) < 10 := by omega
    have hq : (n : Int) / 10 = ((n / 10 : Nat) : Int) := by omega
    have hr : (n : Int) % 10 = ((n % 10 : Nat) : Int) := by omega
    have hr2 : (n : Int).tmod 10 = ((n % 10 : Nat) : Int) := by rw [Int.tmod_eq_emod_of_nonneg (by omega)]; omega
    have hwq : IntKind.i64.wrap ((n / 10 : Nat) : Int) = ((n / 10 : Nat) : Int) := by rw [IntWalk.i64_in _ (by omega)]
    have hw8 : IntKind.u8.wrap (48 + ((n % 10 : Nat) : Int)) = 48 + ((n % 10 : Nat) : Int) := by unfold IntKind.wrap; simp [IntKind.bits, IntKind.signed]; omega
    have HC := Lib.hid (fun (w : World) => conv_one8 w (48 + ((n % 10 : Nat) : Int)))
    have HC2 := Lib.hid (fun (W : World) (b : Nat) (h : W.cell? ⟨b, 0, none⟩ = some (.int .u8 (48 + ((n % 10 : Nat) : Int)))) => conv_at8 W b _ h)
    have hmod : ((48 + ((n % 10 : Nat) : Int)) % 256) = 48 + ((n % 10 : Nat) : Int) := by omega
    have hw : IntKind.i64.wrap (48 + ((n % 10 : Nat) : Int)) = 48 + ((n % 10 : Nat) : Int) := by rw [IntWalk.i64_in _ (by omega)]
    have htn : (48 + ((n % 10 : Nat) : Int)).toNat = 48 + n % 10 := by omega
    have hcat := cat_str [UInt8.ofNat (48 + n / 10)] [UInt8.ofNat (48 + n % 10)]
    have hsz : ¬ 9223372036854775807 < (str [UInt8.ofNat (48 + n / 10)]).size + (str [UInt8.ofNat (48 + n % 10)]).size := by rw [size_str, size_str]; simp
    rw [htn] at HC HC2
    have HE := Lib.hid (show str ([UInt8.ofNat (48 + n / 10)] ++ [UInt8.ofNat (48 + n % 10)]) = str [UInt8.ofNat (48 + n / 10), UInt8.ofNat (48 + n % 10)] from rfl)
    generalize str [UInt8.ofNat (48 + n / 10), UInt8.ofNat (48 + n % 10)] = goal at HE ⊢
    rw [HE.out] at hcat
    generalize str [UInt8.ofNat (48 + n / 10)] = s1 at HN hcat hsz
    generalize str [UInt8.ofNat (48 + n % 10)] = s2 at HC HC2 hcat hsz
    generalize n % 10 = r at *
    generalize n / 10 = q at *
    have hc0 := HC.out w
    have hc1 := HC.out w.drew
    have hcl0 : (w.alloc (.cells #[.int .u8 (48 + (r : Int))] 5)).cell? ⟨w.heap.size, 0, none⟩ = some (.int .u8 (48 + (r : Int))) := by rw [cell_of_row _ _ 0 _ _ (0, 0) (heap_alloc_new w _)]; rfl
    have hcl1 : (w.alloc (.cells #[.int .u8 (48 + (r : Int))] 5)).drew.cell? ⟨w.heap.size, 0, none⟩ = some (.int .u8 (48 + (r : Int))) := by rw [cell_of_row _ _ 0 #[.int .u8 (48 + (r : Int))] 5 (0, 0) (show (w.alloc (.cells #[.int .u8 (48 + (r : Int))] 5)).drew.heap[w.heap.size]? = _ from heap_alloc_new w _)]; rfl
    have hc2 := HC2.out _ _ hcl1
    have HBA := Lib.hid (show Below w.heap.size w (w.alloc (.cells #[.int .u8 (48 + (r : Int))] 5)).drew from ((Below.refl _ _).alloc (Nat.le_refl _) _).drew)
    go_enter Try.func28, Try.ntmps28
    go_upto_region 3 with fail
    go_region_law (go_simp; go_at_call 28; with_reducible refine (HN.out _).mono ?_; rintro e w2 ⟨rfl, hb2⟩; have HB2 := Lib.hid hb2; have hcw := HC.out w2; (try have hcv := HC2.out w2 w.heap.size ((Below.cell (p := ⟨w.heap.size, 0, none⟩) hb2 (by show w.heap.size < _; simp)).trans (by first | exact hcl0 | exact hcl1))); clear hb2)
    all_goals
      go_wp2
      go_ret
      first
      | exact ⟨rfl, ((Below.refl w.heap.size w).drew.trans HB2.out).alloc HB2.out.size _⟩
      | exact ⟨rfl, HBA.out.trans (HB2.out.mono HBA.out.size)⟩
/-- the row of PropRound -/
def rl (n : Nat) (r : Bool) : List Pp := (List.range n).map fun i => (dec8 (i + 1), if i = n - 1 then (if r then [36, 123, 49, 125] else [101, 110, 100]) else asIs (dec8 (i + 2)))
def okRound (n : Nat) (r : Bool) : Bool :=
  match expandM8 (firsts [] (rl n r)) [60, 36, 123, 49, 125, 62] [] with
  | .ok v _ => decide (n ≤ 32) && !r && v == [60, 101, 110, 100, 62]
  | .bad e m _ => if 32 < n then e == 2 && m == dec8 33 else r && e == 22 && m == [49]
theorem allRound : (List.range 61).all (fun n => okRound (n + 1) true && okRound (n + 1) false) = true := by kernel_rfl
end Go.Proofs.Ythfholnnkdoagaa
