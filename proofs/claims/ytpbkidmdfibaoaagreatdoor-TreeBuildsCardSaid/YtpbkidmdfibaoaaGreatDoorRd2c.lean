/-
  Layer 2: contracts of the reader's methods name and between. Own work.
-/
import Derived.Test.YtpbkidmdfibaoaaGreatDoorRd2b
namespace Go.Proofs.YtpbkidmdfibaoaaGreatDoor
set_option linter.unusedVariables false
set_option linter.unusedSimpArgs false
open Go.RowKit

theorem bt_str {l : List UInt8} {i : Nat} {c : UInt8} (h : l[i]? = some c) : bt (str l) i = c.toNat := by
  have hi : i < (str l).size := by rw [size_str]; exact (List.getElem?_eq_some_iff.1 h).1
  have h2 := bt_list (str l) i hi
  rw [toList_str, h] at h2
  unfold bt
  cases h2
  rfl
theorem tw_all {α : Type} (p : α → Bool) : ∀ (l : List α) (i : Nat) (x : α), i < (l.takeWhile p).length → l[i]? = some x → p x = true
  | [], i, x, h, _ => by simp at h
  | y :: l, i, x, h, hx => by
    rw [List.takeWhile_cons] at h
    cases hy : p y with
    | false => rw [hy] at h; simp at h
    | true =>
      rw [hy] at h
      cases i with
      | zero => simp at hx; subst hx; exact hy
      | succ i => exact tw_all p l i x (by simpa using h) (by simpa using hx)
theorem tw_stop {α : Type} (p : α → Bool) : ∀ l : List α, (l.takeWhile p).length = l.length ∨ ∃ x, l[(l.takeWhile p).length]? = some x ∧ p x = false
  | [] => .inl rfl
  | y :: l => by
    rw [List.takeWhile_cons]
    cases hy : p y with
    | false => exact .inr ⟨y, rfl, hy⟩
    | true =>
      rcases tw_stop p l with h | ⟨x, h1, h2⟩
      · exact .inl (by simp [h])
      · exact .inr ⟨x, by simpa using h1, h2⟩
theorem tw_le {α : Type} (p : α → Bool) (l : List α) : (l.takeWhile p).length ≤ l.length := (List.takeWhile_prefix p).length_le
theorem nameL_le (r : List UInt8) : nameL r ≤ r.length := by
  cases r with
  | nil => exact Nat.le_refl _
  | cons c r =>
    rw [nameL]
    split
    · have := tw_le (fun d : UInt8 => isName (d.toNat : Int)) r
      simp only [List.length_cons]
      omega
    · omega
theorem nameL_is (r : List UInt8) : NameIs (str r) (nameL r) := by
  cases r with
  | nil => exact .inl ⟨rfl, .inl rfl⟩
  | cons c r =>
    have h0 : bt (str (c :: r)) 0 = c.toNat := bt_str rfl
    by_cases hf : isFirst (c.toNat : Int) = true
    · have hn : nameL (c :: r) = 1 + (r.takeWhile fun d => isName (d.toNat : Int)).length := by rw [nameL, if_pos hf]
      refine .inr ⟨by omega, by rw [size_str]; exact nameL_le _, by rw [h0]; exact hf, fun i h1 h2 => ?_, ?_⟩
      · obtain ⟨j, rfl⟩ : ∃ j, i = j + 1 := ⟨i - 1, by omega⟩
        have hj : j < (r.takeWhile fun d => isName (d.toNat : Int)).length := by omega
        obtain ⟨x, hx⟩ : ∃ x, r[j]? = some x := ⟨_, List.getElem?_eq_getElem (Nat.lt_of_lt_of_le hj (tw_le _ r))⟩
        rw [bt_str (l := c :: r) (c := x) (by simpa using hx)]
        exact tw_all _ r j x hj hx
      · rw [hn]
        rcases tw_stop (fun d : UInt8 => isName (d.toNat : Int)) r with h | ⟨x, h1, h2⟩
        · exact .inl (by rw [h, size_str, List.length_cons]; omega)
        · refine .inr ?_
          rw [Nat.add_comm 1, bt_str (l := c :: r) (c := x) (by simpa using h1)]
          exact h2
    · refine .inl ⟨?_, .inr ?_⟩
      · rw [nameL, if_neg hf]
      · rw [h0]; exact Bool.eq_false_iff.2 hf
set_option maxHeartbeats 2000000 in
theorem name_at (X : Nat) (l r : List UInt8) (e0 : Int) (hl : l.length ≤ 1000000) (w : World) (h : RT w X l r) :
    Calls Tryz.prog 101 #[.pointer (some ⟨X, 0, none⟩), .int .i64 e0] w (RsP X l (nameM e0 r) (fun n => .string (str n)) w) := by
  by_cases hr : r = []
  · subst hr
    have HP := Lib.hid (peek_end X l w h)
    clear h
    go_enter Tryz.func101, Tryz.ntmps101
    go_wp2_with fail
    refine HP.out.mono ?_
    rintro e w2 ⟨rfl, hm⟩
    have HM := Lib.hid hm
    clear hm
    go_wp2
    exact ⟨rfl, rfl, HM.out⟩
  obtain ⟨c, r1, hrc⟩ : ∃ c r1, r = c :: r1 := by
    cases r with
    | nil => exact absurd rfl hr
    | cons c r1 => exact ⟨c, r1, rfl⟩
  have HP := Lib.hid (by have h1 := h; rw [hrc] at h1; exact peek_at X l r1 c w h1)
  have hll := suf_len h.1
  have HLL := Lib.hid hll
  have HRC := Lib.hid hrc
  clear h hrc hll
  go_enter Tryz.func101, Tryz.ntmps101
  go_wp2_with fail
  refine HP.out.mono ?_
  rintro e w2 ⟨rfl, hm⟩
  rw [← HRC.out] at hm
  have HM := Lib.hid hm
  have HR := Lib.hid (rest_at X l r w2 hm.1)
  clear hm HP
  go_wp2_with fail
  refine HR.out.mono ?_
  rintro e w3 ⟨rfl, hm3⟩
  have HM3 := Lib.hid (HM.out.trans hm3)
  have HN := Lib.hid (Name_any (str r) (by rw [size_str]; have := HLL.out; omega) w3)
  clear hm3 HR HM
  go_wp2_with fail
  refine HN.out.mono ?_
  rintro e w4 ⟨n, rfl, hn, hw4⟩
  obtain rfl : w3 = w4 := hw4.symm
  have hnn := name_one hn (nameL_is r)
  have hnl := nameL_le r
  clear hn HN
  subst hnn
  generalize hq : nameL r = n at hnl
  have HQ := Lib.hid hq
  clear hq
  have hnI : (n : Int) ≤ 1000000 := by have := HLL.out; omega
  by_cases h0 : n = 0
  · have HMM := Lib.hid (show nameM e0 r = .bad e0 r by unfold nameM; rw [if_neg hr, if_pos (by rw [HQ.out]; exact h0)])
    subst h0
    have HF := Lib.hid (fail_at X l r e0 w3 HM3.out.1)
    clear hr
    go_wp2_with fail
    refine HF.out.mono ?_
    rintro e w5 ⟨rfl, rfl⟩
    go_wp2
    refine ⟨rfl, ?_⟩
    rw [HMM.out]
    exact ⟨rfl, HM3.out⟩
  · have HMM := Lib.hid (show nameM e0 r = .ok (r.take n) (r.drop n) by unfold nameM; rw [if_neg hr, if_neg (by rw [HQ.out]; exact h0), HQ.out])
    have hne : ((n : Int) == 0) = false := by rw [beq_eq_false_iff_ne]; omega
    have hsl : ((str r).extract 0 n) = str (r.take n) := by rw [ext_str, toList_str, List.drop_zero]
    have hns : (n : Int) ≤ ((str r).size : Int) := by rw [size_str]; omega
    have hns2 : n ≤ (str r).size := by rw [size_str]; omega
    have HR := Lib.hid (rest_at X l r w3 HM3.out.1)
    have HLEN := Lib.hid hnl
    clear hr h0 hnl
    go_wp2_with fail
    refine HR.out.mono ?_
    rintro e w5 ⟨rfl, hm5⟩
    have HM5 := Lib.hid (HM3.out.trans hm5)
    have HK := Lib.hid (skip_at X l r n HLEN.out hl w5 hm5.1)
    clear hm5 HR
    go_wp2_with fail
    refine HK.out.mono ?_
    rintro e w6 ⟨rfl, hm6⟩
    have HM6 := Lib.hid (HM5.out.trans hm6)
    clear hm6 HK
    go_wp2
    go_ret
    rw [HMM.out]
    exact ⟨rfl, HM6.out⟩
theorem cut_mid {l r0 acc r' : List UInt8} (h : r0 <:+ l) (he : r0 = acc ++ r') : (str l).extract (l.length - r0.length) (l.length - r'.length) = str acc := by
  obtain ⟨q, rfl⟩ := h
  subst he
  rw [ext_str, toList_str]
  congr 1
  have e1 : (q ++ (acc ++ r')).length - (acc ++ r').length = q.length := by simp
  have e2 : (q ++ (acc ++ r')).length - r'.length = (q ++ acc).length := by simp; omega
  rw [e1, e2, ← List.append_assoc, List.take_left, List.drop_left]
theorem bet_mid {back : List UInt8} {acc r' r0 : List UInt8} (h : back.isPrefixOf r' = true) (hr : betM back acc r' = betM back [] r0) : betM back [] r0 = .ok acc (r'.drop back.length) := by
  rw [← hr]
  cases r' with
  | nil =>
    unfold betM
    rw [if_pos h]
    have : back = [] := by cases back with | nil => rfl | cons a b => simp [List.isPrefixOf] at h
    subst this; rfl
  | cons c r' => unfold betM; rw [if_pos h]
set_option maxRecDepth 100000 in
set_option maxHeartbeats 4000000 in
theorem between_at (X : Nat) (l r f b : List UInt8) (hb : b ≠ []) (hl : l.length ≤ 1000000) (hfr : f.length ≤ r.length) (w : World) (h : RT w X l r) :
    Calls Tryz.prog 82 #[.pointer (some ⟨X, 0, none⟩), .string (str f), .string (str b)] w (RsP X l (betM b [] (r.drop f.length)) (fun t => .string (str t)) w) := by
  have HK := Lib.hid (skip_at X l r f.length hfr hl w h)
  have hsf := size_str f
  have hsb := size_str b
  have HBN := Lib.hid hb
  clear h hb
  go_enter Tryz.func82, Tryz.ntmps82
  go_wp2_with fail
  refine HK.out.mono ?_
  rintro e w2 ⟨rfl, hm⟩
  generalize hr0 : r.drop f.length = r0 at hm ⊢
  have HM := Lib.hid hm
  obtain ⟨c0, c1, c2, c3⟩ := hm.1.cells
  have HSUF := Lib.hid hm.1.1
  obtain ⟨n0, hn0⟩ : ∃ n0, n0 = l.length - r0.length := ⟨_, rfl⟩
  rw [← hn0] at c0
  have HN0 := Lib.hid hn0
  have HR0 := Lib.hid hr0
  clear hm hr0 HK hn0
  go_wp2_with fail
  clear c0 c1 c2 c3
  go_loopw [] (fun wr => ∃ acc r', betM b acc r' = betM b [] r0 ∧ r0 = acc ++ r' ∧ Mv X l r' w wr) (fun wr => l.length - offW X wr)
  case atStart => exact ⟨[], r0, rfl, rfl, HM.out⟩
  case round =>
    obtain ⟨acc, r', hbm, hra, hmv⟩ := hrel
    have HMV := Lib.hid hmv
    have HBM := Lib.hid hbm
    have HRA := Lib.hid hra
    have HG := Lib.hid (begins_at X l r' b wr hmv.1)
    clear hmv hbm hra
    go_wp2_with fail
    refine HG.out.mono ?_
    rintro e w3 ⟨rfl, hm3⟩
    have HM3 := Lib.hid (HMV.out.trans hm3)
    clear hm3 HG
    generalize hpq : b.isPrefixOf r' = q
    have HPQ := Lib.hid hpq
    clear hpq
    cases q
    case true =>
      have HFIN := Lib.hid (bet_mid HPQ.out HBM.out)
      obtain ⟨c0, c1, c2, c3⟩ := HM3.out.1.cells
      have hcut := cut_mid HSUF.out HRA.out
      rw [← HN0.out] at hcut
      have hbl : b.length ≤ r'.length := (List.isPrefixOf_iff_prefix.1 HPQ.out).length_le
      have hs1 := suf_len HM3.out.1.1
      have hs0 := suf_len HSUF.out
      have hlr : r0.length = acc.length + r'.length := by rw [HRA.out, List.length_append]
      have h01 : n0 ≤ l.length - r'.length := by have := HN0.out; omega
      have h1s : l.length - r'.length ≤ (str l).size := by rw [size_str]; omega
      have HKB := Lib.hid (skip_at X l r' b.length hbl hl w3.drew (by exact HM3.out.1))
      have HHM := Lib.hid (HM3.out.trans (Mv.drew0 HM3.out.1))
      generalize l.length - r'.length = n1 at c0 hcut h01 h1s
      have h01I : (n0 : Int) ≤ (n1 : Int) := by omega
      have h1sI : (n1 : Int) ≤ ((str l).size : Int) := by omega
      clear hbl hs1 hs0 hlr
      go_upto_region 7 with fail
      go_region
      all_goals go_wp2_with fail
      refine HKB.out.mono ?_
      rintro e w5 ⟨rfl, hm5⟩
      have HM5 := Lib.hid (HHM.out.trans hm5)
      clear hm5 HKB
      go_wp2
      go_ret
      rw [HR0.out, HFIN.out]
      exact ⟨rfl, HM5.out⟩
    case false =>
      cases r' with
      | nil =>
        have HP := Lib.hid (peek_end X l w3 HM3.out.1)
        have HFIN := Lib.hid (show betM b [] r0 = .bad 13 [] by rw [← HBM.out]; unfold betM; rw [if_neg (by rw [HPQ.out]; simp)])
        go_wp2_with fail
        refine HP.out.mono ?_
        rintro e w4 ⟨rfl, hm4⟩
        have HM4 := Lib.hid (HM3.out.trans hm4)
        clear hm4
        go_wp2
        refine ⟨rfl, ?_⟩
        rw [HR0.out, HFIN.out]
        exact ⟨rfl, HM4.out⟩
      | cons c r' =>
        have HP := Lib.hid (peek_at X l r' c w3 HM3.out.1)
        go_wp2_with fail
        refine HP.out.mono ?_
        rintro e w4 ⟨rfl, hm4⟩
        have HM4 := Lib.hid (HM3.out.trans hm4)
        have HT := Lib.hid (IsText_any (c.toNat : Int) w4)
        clear hm4 HP
        go_wp2_with fail
        refine HT.out.mono ?_
        rintro e w5 ⟨rfl, hw5⟩
        obtain rfl : w4 = w5 := hw5.symm
        generalize htx : isText (c.toNat : Int) = t
        have HTX := Lib.hid htx
        clear htx HT
        have HSTEP := Lib.hid (show betM b [] r0 = if tx c then betM b (acc ++ [c]) r' else .bad 10 (c :: r') by rw [← HBM.out]; rw [betM, if_neg (by rw [HPQ.out]; simp)])
        cases t
        case false =>
          have HFIN := Lib.hid (show betM b [] r0 = .bad 10 (c :: r') by rw [HSTEP.out, if_neg (by rw [show tx c = false from HTX.out]; simp)])
          have HF := Lib.hid (fail_at X l (c :: r') 10 w4 HM4.out.1)
          go_wp2_with fail
          refine HF.out.mono ?_
          rintro e w6 ⟨rfl, rfl⟩
          go_wp2
          refine ⟨rfl, ?_⟩
          rw [HR0.out, HFIN.out]
          exact ⟨rfl, HM4.out⟩
        case true =>
          have HNX := Lib.hid (show betM b (acc ++ [c]) r' = betM b [] r0 by rw [HSTEP.out, if_pos (show tx c = true from HTX.out)])
          have HK := Lib.hid (skip_at X l (c :: r') 1 (by simp) hl w4 HM4.out.1)
          go_wp2_with fail
          refine HK.out.mono ?_
          rintro e w6 ⟨rfl, hm6⟩
          have HM6 := Lib.hid (HM4.out.trans hm6)
          have HO := Lib.hid (show l.length - offW X w6 < l.length - offW X wr by
            rw [hm6.1.off, HMV.out.1.off]
            have := suf_len HMV.out.1.1
            simp only [List.drop_succ_cons, List.drop_zero, List.length_cons] at this ⊢
            omega)
          clear hm6 HK
          go_wp2
          go_roundw
          case rel => exact ⟨acc ++ [c], r', HNX.out, by rw [HRA.out]; simp, HM6.out⟩
          case measure => exact HO.out
end Go.Proofs.YtpbkidmdfibaoaaGreatDoor
