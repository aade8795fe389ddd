/-
  Layer 4: the contract of the answer's Canon. Own work.
-/
import Derived.Test.YtmfknlmjpfiajaaDoorRefParts
namespace Go.Proofs.YtmfknlmjpfiajaaDoor
set_option linter.unusedVariables false
set_option linter.unusedSimpArgs false
open Go.RowKit

theorem ba_app (a b : ByteArray) : (a ++ b).toList = a.toList ++ b.toList := by
  rw [ByteArray.toList_eq, ByteArray.toList_eq, ByteArray.toList_eq, ByteArray.data_append, Array.toList_append]
set_option maxHeartbeats 8000000 in
set_option maxRecDepth 100000 in
theorem refCanon_any (s : ByteArray) (hs : s.size ≤ 1000) (w : World) :
    Calls Tryd.prog 19 #[.string s] w fun e w' => e = .returned (.string (str (canonB s.data.toList))) ∧ Below w.heap.size w w' := by
  have P1 := Lib.hid (fun w => refParts_any s (by omega) w)
  have h1 : s.data.toList.length = s.size := by simp
  have htx := partsB_tx s.data.toList
  have hln := partsB_len s.data.toList
  rw [h1] at htx hln
  obtain ⟨l, hl⟩ : ∃ l, l = partsB s.data.toList := ⟨_, rfl⟩
  have HCB := Lib.hid (show canonB s.data.toList = canUp l l.length by rw [hl]; rfl)
  rw [← hl] at P1 htx hln
  have HCL := Lib.hid (fun k hk => canUp_len (s.size + 9) l htx k hk)
  have HTX := Lib.hid htx
  clear hl h1 htx
  go_enter Tryd.func19, Tryd.ntmps19
  go_wp2_with fail
  refine (P1.out _).mono ?_
  rintro e w1 ⟨u, rfl, hrd, hb1⟩
  obtain ⟨a, cap, rfl, hc1, hc2, hcell⟩ := hrd
  have HC := Lib.hid hcell
  have HB1 := Lib.hid hb1
  have hz1 := hb1.size
  clear hcell hb1 hc2
  go_wp2
  go_loopw [3, 9] (fun v i wr => ∃ k : Nat, k ≤ l.length ∧ i = .int .i64 k ∧ v = .string (str (canUp l k)) ∧ Below w.heap.size w wr ∧ Below w1.heap.size w1 wr) (fun _ i _ => l.length - (intOf i).toNat)
  case atStart => exact ⟨0, Nat.zero_le _, rfl, rfl, HB1.out, Below.refl _ _⟩
  case round =>
    obtain ⟨k, hk, rfl, rfl, hbel, hbel1⟩ := hrel
    have hz := hbel.size
    have hzz := hbel1.size
    by_cases hlt : k < l.length
    · obtain ⟨p, hpk⟩ : ∃ p, l[k]? = some p := ⟨_, List.getElem?_eq_getElem hlt⟩
      have hpa : ptAt l k = p := ptAt_some hpk
      have htx := HTX.out p (List.mem_of_getElem? hpk)
      have hcl := HCL.out k (by omega)
      have hcl2 : k * (s.size + 9 + 2) ≤ 1001 * 1011 := Nat.mul_le_mul (by omega) (by omega)
      have HNX := Lib.hid (show canUp l (k + 1) = canUp l k ++ canP k p by rw [← hpa]; rfl)
      clear hpa
      obtain ⟨b, off, rfl, hblt, c0, c1, c2⟩ := HC.out k p hpk
      have c0 := (hbel1.cell (p := ⟨b, off + k * 3, none⟩) hblt).trans c0
      have c1 := (hbel1.cell (p := ⟨b, off + k * 3 + 1, none⟩) hblt).trans c1
      have c2 := (hbel1.cell (p := ⟨b, off + k * 3 + 2, none⟩) hblt).trans c2
      have hltI : (k : Int) < l.length := by omega
      obtain ⟨acc, hacc⟩ : ∃ acc, acc = canUp l k := ⟨_, rfl⟩
      rw [← hacc] at hcl HNX
      rw [← hacc]
      have hal : (str acc).size ≤ 2000000 := by rw [size_str]; omega
      have htz : (str p.tx).size ≤ 2000 := by rw [size_str]; omega
      have e45 : (⟨#[45]⟩ : ByteArray).size = 1 := rfl
      have e46 : (⟨#[46]⟩ : ByteArray).size = 1 := rfl
      have e48 : (⟨#[48]⟩ : ByteArray).size = 1 := rfl
      clear hcl hcl2 hpk
      have fin : ∀ x : ByteArray, x.toList = acc ++ canP k p → Value.string x = Value.string (str (canUp l (k + 1))) := fun x hx => by
        rw [HNX.out]; congr 1; exact tl_ext (by rw [hx, tl_str])
      have FIN := Lib.hid fin
      have HACC := Lib.hid hacc
      clear fin hacc
      have hbw := fun o => (⟨hbel.alloc hz o, hbel1.alloc hzz o⟩ : Below w.heap.size w (wr.alloc o) ∧ Below w1.heap.size w1 (wr.alloc o))
      have HBW := Lib.hid hbw
      clear hbw hbel hbel1
      obtain ⟨hy, nu, tx⟩ := p
      simp only at c0 c1 c2 htz
      have etx : ((str tx).toList == ([] : List UInt8)) = tx.isEmpty := by rw [tl_str]; cases tx <;> rfl
      by_cases hk0 : k = 0
      · subst hk0
        simp only [Nat.zero_mul, Nat.add_zero] at c0 c1 c2
        cases htn : tx.isEmpty
        all_goals rw [htn] at etx
        all_goals cases hy <;> cases nu
        all_goals
          go_wp2
          exact ⟨⟨0 + 1, by omega, rfl, FIN.out _ (by simp [ba_app, tl_str, tl_lit, canP, htn]), (HBW.out _).1, (HBW.out _).2⟩, by simp [intOf]; omega⟩
      · have hk1 : (0 : Int) < k := by omega
        cases htn : tx.isEmpty
        all_goals rw [htn] at etx
        all_goals cases hy <;> cases nu
        all_goals
          go_wp2
          exact ⟨⟨k + 1, by omega, by simp, FIN.out _ (by simp [ba_app, tl_str, tl_lit, canP, hk0, htn]), (HBW.out _).1, (HBW.out _).2⟩, by simp [intOf]; omega⟩
    · have hke : k = l.length := by omega
      have hkI : (l.length : Int) ≤ k := by omega
      have HKE := Lib.hid hke
      clear hke hlt
      go_wp2
      go_ret
      exact ⟨ret_str (by rw [HCB.out, ← HKE.out]), hbel⟩
end Go.Proofs.YtmfknlmjpfiajaaDoor
