/-
  Layer 1: the contract of chars.numbered. Own work.
-/
import Derived.Test.YtpbkidmdfibaoaaGreatDoorNum
namespace Go.Proofs.YtpbkidmdfibaoaaGreatDoor
set_option linter.unusedVariables false
set_option linter.unusedSimpArgs false
open Go.RowKit

theorem hidx (s : ByteArray) (k : Nat) (c : UInt8) (h : s.data.toList[k]? = some c) (w : World) :
    (Instr.index 9 (.string s) (.int .i64 (k : Int))).run Tryz.prog w = .ok (.int .u8 (c.toNat : Int)) w := by
  have hk : k < s.size := by have := (List.getElem?_eq_some_iff.1 h).1; simpa using this
  rw [run_index_string w 9 s _ _ Tryz.underlying9, dif_pos ⟨by omega, by omega⟩]
  have : s[(k : Int).toNat]'(by simpa using hk) = c := by
    have h2 : s.data[k] = c := by have := (List.getElem?_eq_some_iff.1 h).2; simpa using this
    exact h2
  rw [this]

theorem ref_ret {x y : ByteArray × Nat × Nat} (h : x = y) : Ending.returned (refV x) = .returned (refV y) := by rw [h]

/-- all of l from f up to k are digits -/
def AllDig (b : Int) (l : List UInt8) (f k : Nat) : Prop := ∀ i c, f ≤ i → i < k → l[i]? = some c → (dval b c).isSome = true
theorem AllDig.next {b : Int} {l : List UInt8} {f k : Nat} {c : UInt8} (h : AllDig b l f k) (hc : l[k]? = some c) (hd : (dval b c).isSome = true) : AllDig b l f (k + 1) := by
  intro i x h1 h2 h3
  rcases Nat.lt_or_ge i k with h4 | h4
  · exact h i x h1 h4 h3
  · have : i = k := by omega
    subst this
    rw [hc] at h3; cases h3; exact hd
theorem take_dig {b : Int} {l : List UInt8} {f k : Nat} {c : UInt8} (hf : f ≤ k) (hc : l[k]? = some c) : dnum b ((l.drop f).take (k + 1 - f)) = dnum b ((l.drop f).take (k - f)) * b + (dval b c).getD 0 := by
  rw [show k + 1 - f = (k - f) + 1 by omega, take_snoc (l.drop f) (k - f) c (by rw [List.getElem?_drop, show f + (k - f) = k by omega, hc]), dnum_snoc]
theorem num_fin {b : Int} {l : List UInt8} {f k : Nat} (hfk : f ≤ k) (hk8 : k - f ≤ 8) (hall : AllDig b l f k) (hkl : k ≤ l.length) (hstop : k = l.length ∨ k - f = 8 ∨ ∃ c, l[k]? = some c ∧ dval b c = none) :
    numS b l f = finS b l f (k - f) := by
  unfold numS
  rw [digs_stop hfk hk8 hall hkl hstop]
theorem fin_end {b : Int} {l : List UInt8} {f k : Nat} (hfk : f ≤ k) (h : k = l.length) : finS b l f (k - f) = (⟨#[]⟩, 0, 1) := by
  unfold finS; rw [if_pos (by omega)]
theorem fin_none {b : Int} {l : List UInt8} {f k : Nat} (hfk : f ≤ k) (h : k < l.length) (h2 : k = f ∨ l[k]? ≠ some 59) : finS b l f (k - f) = (⟨#[]⟩, 0, 2) := by
  unfold finS
  rw [if_neg (by omega), show f + (k - f) = k by omega, if_pos]
  rcases h2 with h2 | h2
  · left; omega
  · exact .inr h2
theorem fin_some {b : Int} {l : List UInt8} {f k : Nat} (hfk : f < k) (h2 : l[k]? = some 59) (ho : letOk (dnum b ((l.drop f).take (k - f))) = true) : finS b l f (k - f) = (letB (dnum b ((l.drop f).take (k - f))), k + 1, 0) := by
  unfold finS
  have := (List.getElem?_eq_some_iff.1 h2).1
  rw [if_neg (by omega), show f + (k - f) = k by omega, if_neg (by simp [h2]; omega), if_pos ho]
theorem fin_bad {b : Int} {l : List UInt8} {f k : Nat} (hfk : f < k) (h2 : l[k]? = some 59) (ho : letOk (dnum b ((l.drop f).take (k - f))) = false) : finS b l f (k - f) = (⟨#[]⟩, 0, 2) := by
  unfold finS
  have := (List.getElem?_eq_some_iff.1 h2).1
  rw [if_neg (by omega), show f + (k - f) = k by omega, if_neg (by simp [h2]; omega), if_neg (by simp [ho])]

set_option maxHeartbeats 2000000 in
set_option maxRecDepth 100000 in
theorem numbered_any (b : Int) (hb : b = 10 ∨ b = 16) (s : ByteArray) (f : Nat) (hf : f ≤ s.size) (hs : s.size ≤ 1000000) (w : World) :
    Calls Tryz.prog 121 #[.string s, .int .i64 f, .int .i64 b] w fun e w' => e = .returned (refV (numS b s.data.toList f)) ∧ w' = w := by
  have hlen : s.data.toList.length = s.size := by simp
  have HL := Lib.hid hlen; clear hlen
  have HB := Lib.hid hb
  have hb1 : 0 ≤ b := by omega
  have hb2 : b ≤ 16 := by omega
  clear hb
  go_enter Tryz.func121, Tryz.ntmps121
  go_wp2
  go_loop [9, 10] (fun n i => ∃ k : Nat, f ≤ k ∧ k ≤ s.size ∧ k - f ≤ 8 ∧ i = .int .i64 k ∧ n = .int .i64 (dnum b ((s.data.toList.drop f).take (k - f))) ∧ AllDig b s.data.toList f k) (fun _ i => s.size - (intOf i).toNat)
  case atStart => exact ⟨f, Nat.le_refl _, hf, by omega, rfl, by simp [dnum], fun i c h1 h2 => absurd h1 (by omega)⟩
  case round =>
    obtain ⟨k, hfk, hks, hk8, rfl, hn, hall⟩ := hrel
    have hnb := dnum_bd8 HB.out (l := (s.data.toList.drop f).take (k - f)) (by simp; omega)
    have HALL := Lib.hid hall; clear hall
    obtain ⟨n, hnn⟩ : ∃ n, n = dnum b ((s.data.toList.drop f).take (k - f)) := ⟨_, rfl⟩
    rw [← hnn] at hn hnb
    have HN := Lib.hid hnn; clear hnn
    subst hn
    obtain ⟨hn0, hn1⟩ := hnb
    by_cases hkl : k = s.size
    · have HK := Lib.hid hkl; clear hkl
      have e1 : ((k : Int) == (s.size : Int)) = true := by have := HK.out; simp; omega
      have hge : ¬ k < s.size := by have := HK.out; omega
      go_wp2
      go_ret3
      refine ⟨ref_ret (x := (⟨#[]⟩, 0, 1)) ?_, rfl⟩
      rw [num_fin hfk hk8 HALL.out (by rw [HL.out]; omega) (.inl (by rw [HL.out]; exact HK.out)), fin_end hfk (by rw [HL.out]; exact HK.out)]
    have hlt : k < s.size := by omega
    have e1 : ((k : Int) == (s.size : Int)) = false := by simp; omega
    obtain ⟨c, hc⟩ : ∃ c, s.data.toList[k]? = some c := ⟨_, List.getElem?_eq_getElem (by simpa using hlt)⟩
    have hix := hidx s k c hc
    have HC := Lib.hid hc; clear hc
    have HKL := Lib.hid hkl; clear hkl
    by_cases hgo : k - f < 8 ∧ (dval b c).isSome = true
    · obtain ⟨h8, hd⟩ := hgo
      have h8' : (k : Int) - f < 8 := by omega
      have hg := dval_get (b := b) (c := c) HB.out
      obtain ⟨d, hdd⟩ : ∃ d, d = (dval b c).getD 0 := ⟨_, rfl⟩
      obtain ⟨hg0, hg1⟩ := hg
      have hmul : 0 ≤ n * b ∧ n * b ≤ 68719476720 := by
        constructor
        · exact Int.mul_nonneg hn0 hb1
        · have : n * b ≤ 4294967295 * 16 := Int.mul_le_mul (by omega) hb2 hb1 (by omega)
          omega
      obtain ⟨hm0, hm1⟩ := hmul
      go_wp2_with (go_at_call 127; refine (digit_any b HB.out c _).mono ?_; rw [hd, ← hdd]; rintro e w' ⟨rfl, rfl⟩)
      have hx : dnum b ((s.data.toList.drop f).take (k + 1 - f)) = n * b + d := by rw [take_dig hfk HC.out, ← HN.out, hdd]
      have HX := Lib.hid hx; clear hx
      refine ⟨⟨k + 1, by omega, by omega, by omega, by go_num, by rw [HX.out, hdd], HALL.out.next HC.out hd⟩, by simp [intOf]; omega⟩
    · have hstop : k - f = 8 ∨ ∃ c, s.data.toList[k]? = some c ∧ dval b c = none := by
        by_cases h8 : k - f < 8
        · right
          refine ⟨c, HC.out, ?_⟩
          cases h : dval b c with
          | none => rfl
          | some d => exact absurd ⟨h8, by simp [h]⟩ hgo
        · left; omega
      have HF := Lib.hid (num_fin hfk hk8 HALL.out (by rw [HL.out]; omega) (.inr hstop))
      have hlt' : k < s.data.toList.length := by rw [HL.out]; exact hlt
      have HLT := Lib.hid hlt'; clear hlt'
      have hcont : (k - f = 8) ∨ (k - f < 8 ∧ dval b c = none) := by
        rcases hstop with h | ⟨c', hc', h⟩
        · exact .inl h
        · rw [HC.out] at hc'; cases hc'
          by_cases h8 : k - f < 8
          · exact .inr ⟨h8, h⟩
          · left; omega
      clear hstop hgo
      by_cases hkf : k = f
      · have HR := Lib.hid (fin_none (b := b) hfk HLT.out (.inl hkf))
        have e2 : ((k : Int) == (f : Int)) = true := by simp; omega
        have HKF := Lib.hid hkf; clear hkf
        rcases hcont with h8 | ⟨h8, hd⟩
        · exfalso; have := HKF.out; omega
        · have h8' : (k : Int) - f < 8 := by omega
          go_wp2_with (go_at_call 127; refine (digit_any b HB.out c _).mono ?_; rw [hd]; rintro e w' ⟨rfl, rfl⟩)
          go_ret3
          exact ⟨ref_ret (x := (⟨#[]⟩, 0, 2)) (by rw [HF.out, HR.out]), rfl⟩
      have e2 : ((k : Int) == (f : Int)) = false := by simp; omega
      have HKF := Lib.hid hkf; clear hkf
      by_cases h59 : c = 59
      · subst h59
        have h1 : f < k := by have := HKF.out; omega
        by_cases ho : letOk n = true
        · have HR := Lib.hid (fin_some (b := b) h1 HC.out (by rw [← HN.out]; exact ho))
          rcases hcont with h8 | ⟨h8, hd⟩
          · have h8' : (8 : Int) ≤ (k : Int) - f := by omega
            go_wp2_with (go_at_call 128; refine (Letter_any n _).mono ?_; rw [ho]; rintro e w' ⟨rfl, rfl⟩)
            go_ret3
            exact ⟨ref_ret (x := (letB n, k + 1, 0)) (by rw [HF.out, HR.out, ← HN.out]), rfl⟩
          · have h8' : (k : Int) - f < 8 := by omega
            go_wp2_with (first
              | (go_at_call 127; refine (digit_any b HB.out 59 _).mono ?_; rw [hd]; rintro e w' ⟨rfl, rfl⟩)
              | (go_at_call 128; refine (Letter_any n _).mono ?_; rw [ho]; rintro e w' ⟨rfl, rfl⟩))
            go_ret3
            exact ⟨ref_ret (x := (letB n, k + 1, 0)) (by rw [HF.out, HR.out, ← HN.out]), rfl⟩
        · have ho : letOk n = false := by simpa using ho
          have HR := Lib.hid (fin_bad (b := b) h1 HC.out (by rw [← HN.out]; exact ho))
          rcases hcont with h8 | ⟨h8, hd⟩
          · have h8' : (8 : Int) ≤ (k : Int) - f := by omega
            go_wp2_with (go_at_call 128; refine (Letter_any n _).mono ?_; rw [ho]; rintro e w' ⟨rfl, rfl⟩)
            go_ret3
            exact ⟨ref_ret (x := (⟨#[]⟩, 0, 2)) (by rw [HF.out, HR.out]), rfl⟩
          · have h8' : (k : Int) - f < 8 := by omega
            go_wp2_with (first
              | (go_at_call 127; refine (digit_any b HB.out 59 _).mono ?_; rw [hd]; rintro e w' ⟨rfl, rfl⟩)
              | (go_at_call 128; refine (Letter_any n _).mono ?_; rw [ho]; rintro e w' ⟨rfl, rfl⟩))
            go_ret3
            exact ⟨ref_ret (x := (⟨#[]⟩, 0, 2)) (by rw [HF.out, HR.out]), rfl⟩
      · have HR := Lib.hid (fin_none (b := b) hfk HLT.out (.inr (by rw [HC.out]; simpa using h59)))
        have e3 : ((c.toNat : Int) != 59) = true := by
          rw [bne_iff_ne]
          intro h
          exact h59 (UInt8.toNat_inj.1 (by rw [show (59 : UInt8).toNat = 59 from rfl]; omega))
        rcases hcont with h8 | ⟨h8, hd⟩
        · have h8' : (8 : Int) ≤ (k : Int) - f := by omega
          go_wp2
          go_ret3
          exact ⟨ref_ret (x := (⟨#[]⟩, 0, 2)) (by rw [HF.out, HR.out]), rfl⟩
        · have h8' : (k : Int) - f < 8 := by omega
          go_wp2_with (go_at_call 127; refine (digit_any b HB.out c _).mono ?_; rw [hd]; rintro e w' ⟨rfl, rfl⟩)
          go_ret3
          exact ⟨ref_ret (x := (⟨#[]⟩, 0, 2)) (by rw [HF.out, HR.out]), rfl⟩
end Go.Proofs.YtpbkidmdfibaoaaGreatDoor
