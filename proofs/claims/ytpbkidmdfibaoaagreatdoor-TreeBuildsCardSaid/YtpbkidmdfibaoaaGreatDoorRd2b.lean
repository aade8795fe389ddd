/-
  Layer 2: contracts of the reader's methods blanks, must, name, between. Own work.
-/
import Derived.Test.YtpbkidmdfibaoaaGreatDoorRd2
namespace Go.Proofs.YtpbkidmdfibaoaaGreatDoor
set_option linter.unusedVariables false
set_option linter.unusedSimpArgs false
open Go.RowKit

/-- what a method ends with -/
def RsP {α : Type} (X : Nat) (l : List UInt8) (M : Rs α) (val : α → Value) (w : World) (e : Ending) (w' : World) : Prop :=
  match M with
  | .ok a r => e = .returned (val a) ∧ Mv X l r w w'
  | .bad c r => e = bad2 c l r ∧ Mv X l r w w'
theorem RsP.after {α : Type} {X : Nat} {l r : List UInt8} {M : Rs α} {val : α → Value} {w w1 : World} {e : Ending} {w' : World} (h : RsP X l M val w1 e w') (hm : Mv X l r w w1) : RsP X l M val w e w' := by
  cases M with
  | ok a r => exact ⟨h.1, hm.trans h.2⟩
  | bad c r => exact ⟨h.1, hm.trans h.2⟩
def offW (X : Nat) (w : World) : Nat := match w.cell? ⟨X, 0, none⟩ with | some (.int _ n) => n.toNat | _ => 0
theorem RT.off {w : World} {X : Nat} {l r : List UInt8} (h : RT w X l r) : offW X w = l.length - r.length := by
  unfold offW
  rw [h.cells.1]
  simp
theorem blanks_len (r : List UInt8) : (blanksM r).length ≤ r.length := (blanks_left r).length_le
set_option maxRecDepth 100000 in
set_option maxHeartbeats 4000000 in
theorem blanks_at (X : Nat) (l r : List UInt8) (hl : l.length ≤ 1000000) (w : World) (h : RT w X l r) :
    Calls Tryz.prog 102 #[.pointer (some ⟨X, 0, none⟩)] w fun e w' => e = .returned (.bool (decide ((blanksM r).length < r.length))) ∧ Mv X l (blanksM r) w w' := by
  have H := Lib.hid h
  obtain ⟨c0, c1, c2, c3⟩ := h.cells
  have hle := suf_len h.1
  obtain ⟨n0, hn0⟩ : ∃ n0, n0 = l.length - r.length := ⟨_, rfl⟩
  rw [← hn0] at c0
  have HN0 := Lib.hid hn0
  have HLE := Lib.hid hle
  clear h hn0 hle
  go_enter Tryz.func102, Tryz.ntmps102
  go_wp2_with fail
  clear c0 c1 c2 c3
  go_loopw [] (fun wr => ∃ r', blanksM r' = blanksM r ∧ Mv X l r' w wr) (fun wr => l.length - offW X wr)
  case atStart => exact ⟨r, rfl, Mv.refl H.out⟩
  case round =>
    obtain ⟨r', hb, hm⟩ := hrel
    have HB := Lib.hid hb
    have HM := Lib.hid hm
    have HE := Lib.hid (ended_at X l r' wr hm.1)
    clear hb hm
    have fin : ∀ (wz : World) (r' : List UInt8), blanksM r' = r' → RT wz X l r' → ∃ n1 : Nat, wz.cell? ⟨X, 0, none⟩ = some (.int .i64 (n1 : Int)) ∧ n1 = l.length - r'.length := fun wz r' _ h => ⟨_, h.cells.1, rfl⟩
    cases r' with
    | nil =>
      go_wp2_with fail
      refine HE.out.mono ?_
      rintro e w2 ⟨rfl, hm2⟩
      have HM2 := Lib.hid (HM.out.trans hm2)
      obtain ⟨n1, d0, hn1⟩ := fin w2 [] rfl hm2.1
      have HRR := Lib.hid (show blanksM r = [] from HB.out.symm)
      have HV := Lib.hid (show decide (n0 < n1) = decide ((blanksM r).length < r.length) by rw [HRR.out, hn1, HN0.out]; have := HLE.out; congr 1; simp; omega)
      clear hm2 hn1 fin HE
      dsimp only [List.isEmpty]
      go_wp2
      go_ret
      exact ⟨ret_bool (by rw [← HV.out]), by rw [HRR.out]; exact HM2.out⟩
    | cons c r' =>
      go_wp2_with fail
      refine HE.out.mono ?_
      rintro e w2 ⟨rfl, hm2⟩
      have HM2 := Lib.hid (HM.out.trans hm2)
      have HP := Lib.hid (peek_at X l r' c w2 hm2.1)
      clear hm2 HE
      dsimp only [List.isEmpty]
      go_wp2_with fail
      refine HP.out.mono ?_
      rintro e w3 ⟨rfl, hm3⟩
      have HM3 := Lib.hid (HM2.out.trans hm3)
      have HI := Lib.hid (IsBlank_any (c.toNat : Int) w3)
      clear hm3 HP
      go_wp2_with fail
      refine HI.out.mono ?_
      rintro e w4 ⟨rfl, hw4⟩
      obtain rfl : w3 = w4 := hw4.symm
      generalize hbl : isBlank (c.toNat : Int) = b
      have HBL := Lib.hid hbl
      clear hbl HI
      cases b
      case true =>
        have HK := Lib.hid (skip_at X l (c :: r') 1 (by simp) hl w3 HM3.out.1)
        clear fin
        go_wp2_with fail
        refine HK.out.mono ?_
        rintro e w5 ⟨rfl, hm5⟩
        have HM5 := Lib.hid (HM3.out.trans hm5)
        have HO := Lib.hid (show l.length - offW X w5 < l.length - offW X wr by
          rw [hm5.1.off, HM.out.1.off]
          have := suf_len HM.out.1.1
          simp only [List.drop_succ_cons, List.drop_zero, List.length_cons] at this ⊢
          omega)
        clear hm5 HK
        go_wp2
        go_roundw
        case rel => exact ⟨r', by rw [← HB.out]; unfold blanksM; rw [List.dropWhile_cons, if_pos (show bl c = true from HBL.out)], HM5.out⟩
        case measure => exact HO.out
      case false =>
        have hself : blanksM (c :: r') = c :: r' := by unfold blanksM; rw [List.dropWhile_cons, if_neg (by rw [show bl c = false from HBL.out]; simp)]
        obtain ⟨n1, d0, hn1⟩ := fin w3 (c :: r') hself HM3.out.1
        have HRR := Lib.hid (show blanksM r = c :: r' by rw [← HB.out]; exact hself)
        have HV := Lib.hid (show decide (n0 < n1) = decide ((blanksM r).length < r.length) by
          rw [HRR.out, hn1, HN0.out]
          have := HLE.out
          have h2 := suf_len HM.out.1.1
          have h3 := blanks_len r
          rw [HRR.out] at h3
          congr 1
          simp only [eq_iff_iff]
          omega)
        clear hn1 fin hself
        go_wp2
        go_ret
        exact ⟨ret_bool (by rw [← HV.out]), by rw [HRR.out]; exact HM3.out⟩
set_option maxHeartbeats 2000000 in
theorem must_at (X : Nat) (l r : List UInt8) (c : UInt8) (hl : l.length ≤ 1000000) (w : World) (h : RT w X l r) :
    Calls Tryz.prog 103 #[.pointer (some ⟨X, 0, none⟩), .int .u8 (c.toNat : Int)] w (RsP X l (mustM c r) (fun _ => .tuple #[]) w) := by
  cases r with
  | nil =>
    have HP := Lib.hid (peek_end X l w h)
    clear h
    go_enter Tryz.func103, Tryz.ntmps103
    go_wp2_with fail
    refine HP.out.mono ?_
    rintro e w2 ⟨rfl, hm⟩
    have HM := Lib.hid hm
    clear hm
    go_wp2
    exact ⟨rfl, rfl, HM.out⟩
  | cons d r =>
    have HP := Lib.hid (peek_at X l r d w h)
    clear h
    go_enter Tryz.func103, Tryz.ntmps103
    go_wp2_with fail
    refine HP.out.mono ?_
    rintro e w2 ⟨rfl, hm⟩
    have HM := Lib.hid hm
    clear hm
    by_cases hd : d = c
    · have hne : ((d.toNat : Int) != (c.toNat : Int)) = false := by rw [hd]; simp
      have HMM := Lib.hid (show mustM c (d :: r) = .ok () r by rw [mustM, if_pos hd])
      have HK := Lib.hid (skip_at X l (d :: r) 1 (by simp) hl w2 HM.out.1)
      clear hd
      go_wp2_with fail
      refine HK.out.mono ?_
      rintro e w3 ⟨rfl, hm3⟩
      have HM3 := Lib.hid (HM.out.trans hm3)
      clear hm3 HK
      go_wp2
      go_end0
      rw [HMM.out]
      exact ⟨rfl, HM3.out⟩
    · have hne : ((d.toNat : Int) != (c.toNat : Int)) = true := by
        rw [bne_iff_ne]
        intro h
        exact hd (UInt8.toNat_inj.1 (by omega))
      have HMM := Lib.hid (show mustM c (d :: r) = .bad 10 (d :: r) by rw [mustM, if_neg hd])
      have HF := Lib.hid (fail_at X l (d :: r) 10 w2 HM.out.1)
      clear hd
      go_wp2_with fail
      refine HF.out.mono ?_
      rintro e w3 ⟨rfl, rfl⟩
      go_wp2
      refine ⟨rfl, ?_⟩
      rw [HMM.out]
      exact ⟨rfl, HM.out⟩
end Go.Proofs.YtpbkidmdfibaoaaGreatDoor
