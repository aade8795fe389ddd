/-
  Layer 24: the contract of the answer's Number. Own work.
-/
import Derived.Test.YtcmojpfolmcaoaaDoorMem24
import Derived.Lib.ItoaNum
import Derived.Lib.ItoaLen
import Derived.Lib.ConvBytes
import Derived.IntWalk
import Derived.Outline
namespace Go.Proofs.YtcmojpfolmcaoaaDoor
set_option linter.unusedVariables false
set_option linter.unusedSimpArgs false
open Go.RowKit

theorem conv_one (w : World) (n : Int) : (convert 49 9 (.slice (some ⟨w.heap.size, 0, none⟩) 1 1)).run Tryd.prog (w.alloc (.cells #[.int .u8 n] 5)) = .ok (.string (str [UInt8.ofNat n.toNat])) (w.alloc (.cells #[.int .u8 n] 5)) :=
  run_convert_bytes_arg (P := Tryd.prog) (w.alloc (.cells #[.int .u8 n] 5)) 49 5 Tryd.underlying49 Tryd.underlying5 w.heap.size 0 1 1 [n] rfl (fun i hi => by
    match i with
    | 0 => simp [go_sem]
    | i + 1 => omega) 9 Tryd.underlying9
theorem dec_len (n : Nat) (h : n ≤ 1000000) : (Lib.decDigits n).length ≤ 21 := by
  have := Lib.itoa_length_le n (by omega) (by omega)
  unfold Lib.itoa at this
  rw [if_neg (by omega)] at this
  simpa using this
theorem itoa_nat (n : Nat) : Lib.itoa (n : Int) = Lib.decDigits n := by
  unfold Lib.itoa
  rw [if_neg (by omega)]; simp
set_option maxRecDepth 100000 in
set_option maxHeartbeats 1000000 in
theorem Number_any (n : Nat) (h : n ≤ 1000000) (w : World) :
    Calls Tryd.prog 32 #[.int .i64 n] w fun e w' => e = .returned (.string (str (Lib.itoa n))) ∧ Below w.heap.size w w' := by
  have HN := Lib.hid (itoa_nat n)
  have hln := dec_len n h
  have HC := Lib.hid (fun (w : World) (x : Int) => conv_one w x)
  go_enter Tryd.func32, Tryd.ntmps32
  go_wp2_with fail
  go_loopw [0, 3] (fun v s wr => ∃ (m : Nat) (L : List UInt8), m ≤ 1000000 ∧ v = .int .i64 m ∧ s = .string (str L) ∧ Lib.decDigits n = Lib.decDigits m ++ L ∧ Below w.heap.size w wr) (fun v _ _ => (intOf v).toNat)
  case atStart => exact ⟨n, [], h, rfl, rfl, by simp, Below.refl _ _⟩
  case round =>
    obtain ⟨m, L, hm, rfl, rfl, hd, hb⟩ := hrel
    have hL : L.length ≤ 21 := by
      have := congrArg List.length hd
      rw [List.length_append] at this
      omega
    have hLs : (str L).size ≤ 21 := hL
    have HD := Lib.hid hd
    have HB := Lib.hid hb
    clear hd hb
    by_cases h10 : m < 10
    · have hmI : (m : Int) < 10 := by omega
      have hc := HC.out wr (48 + (m : Int))
      have HE := Lib.hid (show Lib.itoa (n : Int) = [UInt8.ofNat (48 + (m : Int)).toNat] ++ L by
        rw [HN.out, HD.out, Lib.decDigits_one h10, show (48 + (m : Int)).toNat = 48 + m by omega])
      have hmod : ((48 + (m : Int)) % 256) = 48 + (m : Int) := by omega
      generalize UInt8.ofNat (48 + (m : Int)).toNat = x at hc HE
      have HAPP := Lib.hid (app_str [x] L)
      have hxs : (str [x]).size ≤ 1 := Nat.le_refl _
      generalize str [x] = sx at hc HAPP hxs
      go_wp2
      all_goals first
        | (exfalso; omega)
        | (go_ret
           exact ⟨ret_str (by rw [HE.out]; exact HAPP.out), HB.out.alloc HB.out.size _⟩)
    · have hmI : (10 : Int) ≤ m := by omega
      have hc := HC.out wr (48 + (m : Int) % 10)
      have hmod : ((48 + (m : Int) % 10) % 256) = 48 + (m : Int) % 10 := by omega
      have HE := Lib.hid (show Lib.decDigits n = Lib.decDigits (m / 10) ++ ([UInt8.ofNat (48 + (m : Int) % 10).toNat] ++ L) by
        rw [HD.out, Lib.decDigits, dif_neg h10, show (48 + (m : Int) % 10).toNat = 48 + m % 10 by omega]
        simp)
      generalize UInt8.ofNat (48 + (m : Int) % 10).toNat = x at hc HE
      have HAPP := Lib.hid (app_str [x] L)
      have hxs : (str [x]).size ≤ 1 := Nat.le_refl _
      generalize str [x] = sx at hc HAPP hxs
      go_wp2
      all_goals first
        | (exfalso; omega)
        | exact ⟨⟨m / 10, [x] ++ L, by omega, by congr 1, congrArg Value.string HAPP.out, HE.out, HB.out.alloc HB.out.size _⟩, by simp [intOf]; omega⟩
end Go.Proofs.YtcmojpfolmcaoaaDoor
