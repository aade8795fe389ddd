/-
  Layer 4: the contract of Parts. Own work.
-/
import Derived.Test.YtnghagikchffiaaDoorTrim4
import Derived.Test.YtnghagikchffiaaDoorLower4
import Derived.Test.YtnghagikchffiaaDoorIds
import Derived.Deep.QuietTactic
namespace Go.Proofs.YtnghagikchffiaaDoor
set_option linter.unusedVariables false
set_option linter.unusedSimpArgs false
open Go.RowKit

theorem isDg_isDigit (c : UInt8) : isDg c = isDigit (c.toNat : Int) := by
  unfold isDg isDigit
  rw [Bool.eq_iff_iff]
  simp
  omega
theorem isCut_eq (c : UInt8) : isCut c = (((c.toNat : Int) == 46) || ((c.toNat : Int) == 45)) := by
  unfold isCut
  rw [Bool.eq_iff_iff]
  simp only [Bool.or_eq_true, beq_iff_eq, ← UInt8.toNat_inj]
  have h1 : (46 : UInt8).toNat = 46 := rfl
  have h2 : (45 : UInt8).toNat = 45 := rfl
  omega
theorem is45 (c : UInt8) : (c == 45) = ((c.toNat : Int) == 45) := by
  rw [Bool.eq_iff_iff]
  simp only [beq_iff_eq, ← UInt8.toNat_inj]
  have h2 : (45 : UInt8).toNat = 45 := rfl
  omega
theorem cutUp_cut {l : List UInt8} {k : Nat} {c : UInt8} (hc : l[k]? = some c) (h : isCut c = true) :
    cutUp l (k + 1) = ⟨(cutUp l k).out ++ [mkPt (sl l (cutUp l k).at_ k) (cutUp l k).hy false], k + 1, c == 45⟩ := by
  have hg : l.getD k 0 = c := by rw [List.getD_eq_getElem?_getD, hc]; rfl
  show cut1 l (cutUp l k) k = _
  unfold cut1
  rw [hg, if_pos h]
theorem cutUp_joint {l : List UInt8} {k : Nat} {c d : UInt8} (hc : l[k]? = some c) (hd : l[k - 1]? = some d) (h : isCut c = false) (h1 : (cutUp l k).at_ < k) (h2 : (isDg c != isDg d) = true) :
    cutUp l (k + 1) = ⟨(cutUp l k).out ++ [mkPt (sl l (cutUp l k).at_ k) (cutUp l k).hy true], k, true⟩ := by
  have hg : l.getD k 0 = c := by rw [List.getD_eq_getElem?_getD, hc]; rfl
  have hg2 : l.getD (k - 1) 0 = d := by rw [List.getD_eq_getElem?_getD, hd]; rfl
  show cut1 l (cutUp l k) k = _
  unfold cut1
  rw [hg, hg2, if_neg (by rw [h]; simp), if_pos ⟨h1, by simpa using h2⟩]
theorem cutUp_same {l : List UInt8} {k : Nat} {c d : UInt8} (hc : l[k]? = some c) (hd : l[k - 1]? = some d) (h : isCut c = false) (h2 : ¬ (cutUp l k).at_ < k ∨ (isDg c != isDg d) = false) :
    cutUp l (k + 1) = cutUp l k := by
  have hg : l.getD k 0 = c := by rw [List.getD_eq_getElem?_getD, hc]; rfl
  have hg2 : l.getD (k - 1) 0 = d := by rw [List.getD_eq_getElem?_getD, hd]; rfl
  show cut1 l (cutUp l k) k = _
  unfold cut1
  rw [hg, hg2, if_neg (by rw [h]; simp), if_neg]
  rintro ⟨a, b⟩
  rcases h2 with h2 | h2
  · exact h2 a
  · exact b (by simpa using h2)

theorem part_at (l : List UInt8) (A k : Nat) (Y j : Bool) (w : World) :
    Calls Tryd.prog 81 #[.string ((str l).extract A k), .bool Y, .bool j] w fun e w' => ∃ p, p = mkPt (sl l A k) Y j ∧ e = .returned (.agg #[.bool p.hy, .bool p.nu, .string (str p.tx)]) ∧ Below w.heap.size w w' := by
  refine (part_any _ Y j w).mono ?_
  rintro e w' ⟨rfl, hb⟩
  refine ⟨_, rfl, ?_, hb⟩
  rw [ext_str]
  rfl
theorem below_drewN {B : Nat} {a w : World} (h : Below B a w) (n : Nat) : Below B a (w.drewN n) := ⟨h.os, h.tape, h.output, h.size, h.block⟩
set_option maxHeartbeats 4000000 in
set_option maxRecDepth 100000 in
theorem Parts_any (s : ByteArray) (hs : s.size ≤ 100000) (w : World) :
    Calls Tryd.prog 71 #[.string s] w fun e w' => ∃ u, e = .returned u ∧ RdP w' u (partsB s.data.toList) ∧ Below w.heap.size w w' ∧ Tagged w.heap.size w' u := by
  obtain ⟨l, hl⟩ : ∃ l, l = lowS s.data.toList := ⟨_, rfl⟩
  have hlen : l.length = s.size := by rw [hl]; simp [lowS]
  have hpb : partsB s.data.toList = trimmedL (parts0 l) := by rw [hl]; rfl
  have hp0 : parts0 l = (cutUp l l.length).out ++ [mkPt (l.drop (cutUp l l.length).at_) (cutUp l l.length).hy false] := rfl
  have hp1 := parts0_len l
  have hlow := fun w => Lower_any s (by omega) w
  rw [← hl] at hlow
  have HLOW := Lib.hid hlow; clear hlow
  have HPB := Lib.hid hpb; clear hpb
  have HP0 := Lib.hid hp0; clear hp0
  clear hl
  obtain ⟨n, hn⟩ : ∃ n, n = l.length := ⟨_, rfl⟩
  have hns : n ≤ 100000 := by omega
  rw [← hn] at hp1
  have hsz : (str l).size = n := by rw [size_str, hn]
  have HN := Lib.hid hn; clear hn hlen hs
  have HP1 := Lib.hid hp1; clear hp1
  go_enter Tryd.func71, Tryd.ntmps71
  go_wp2_with fail
  refine (HLOW.out _).mono ?_
  rintro e w1 ⟨rfl, hb1⟩
  have hz1 := hb1.size
  go_wp2
  go_loopw [3, 4, 5, 11] (fun o f h i wr => ∃ k : Nat, k ≤ n ∧ i = .int .i64 k ∧ f = .int .i64 (cutUp l k).at_ ∧ h = .bool (cutUp l k).hy ∧ wr.ownsRow w.heap.size 108 3 o (cutUp l k).out.length (rowP (cutUp l k).out) ∧ Below w.heap.size w wr) (fun _ _ _ i _ => n - (intOf i).toNat)
  case atStart => exact ⟨0, Nat.zero_le _, rfl, rfl, rfl, World.ownsRow_nil _ _ _ _, hb1⟩
  case round =>
    obtain ⟨k, hk, rfl, rfl, rfl, hown, hbel⟩ := hrel
    have hz := hbel.size
    obtain ⟨hA, hO⟩ := cutUp_at l k
    obtain ⟨ao, co, rfl⟩ := own_slice hown
    by_cases hlt : k < n
    · obtain ⟨c, hc⟩ : ∃ c, l[k]? = some c := ⟨_, List.getElem?_eq_getElem (by rw [← HN.out]; exact hlt)⟩
      have hix := bidx (str l) k c hc
      have HCUT := Lib.hid (fun h => cutUp_cut (l := l) (k := k) hc h)
      have h45 := is45 c
      have hct := isCut_eq c
      have HC := Lib.hid hc; clear hc
      obtain ⟨O, hO1⟩ : ∃ O, O = (cutUp l k).out := ⟨_, rfl⟩
      obtain ⟨A, hA1⟩ : ∃ A, A = (cutUp l k).at_ := ⟨_, rfl⟩
      obtain ⟨Y, hY1⟩ : ∃ Y, Y = (cutUp l k).hy := ⟨_, rfl⟩
      rw [← hO1, ← hA1, ← hY1] at HCUT
      rw [← hO1] at hO hown
      rw [← hA1] at hA
      rw [← hO1, ← hA1, ← hY1]
      have HO1 := Lib.hid hO1
      have HA1 := Lib.hid hA1
      have HY1 := Lib.hid hY1
      clear hO1 hA1 hY1
      obtain ⟨m, hm⟩ : ∃ m, m = O.length := ⟨_, rfl⟩
      rw [← hm] at hown hO ⊢
      have HM := Lib.hid hm; clear hm
      have HO := Lib.hid hown; clear hown
      have HPT := Lib.hid (fun j w => part_at l A k Y j w)
      cases e46 : ((c.toNat : Int) == 46) <;> cases e45 : ((c.toNat : Int) == 45)
      all_goals rw [e45] at h45
      all_goals rw [e46, e45] at hct
      · have hcn : isCut c = false := hct
        have HCN := Lib.hid hcn; clear hcn hct h45
        by_cases hAk : A < k
        · have hAk2 : (A : Int) < k := by omega
          obtain ⟨d, hd⟩ : ∃ d, l[k - 1]? = some d := ⟨_, List.getElem?_eq_getElem (by rw [← HN.out]; omega)⟩
          have hid0 := bidx (str l) (k - 1) d hd
          rw [show ((k - 1 : Nat) : Int) = (k : Int) - 1 by omega] at hid0
          have HD := Lib.hid hd; clear hd
          have dc := fun w => IsDigit_any (c.toNat : Int) w
          have dd := fun w => IsDigit_any (d.toNat : Int) w
          rw [← isDg_isDigit] at dc dd
          have h1k : (1 : Int) ≤ k := by omega
          have h1n : ((k : Int) - 1).toNat = k - 1 := by omega
          cases hgc : isDg c <;> cases hgd : isDg d
          all_goals rw [hgc] at dc
          all_goals rw [hgd] at dd
          all_goals have DC := Lib.hid dc
          all_goals have DD := Lib.hid dd
          all_goals clear dc dd
          · have HC2 := Lib.hid (cutUp_same HC.out HD.out HCN.out (.inr (by rw [hgc, hgd]; rfl)))
            clear hgc hgd
            go_wp2
            go_quiet (first | (go_at_call 73; with_reducible exact Calls.quiet_of_same (DC.out _)) | (go_at_call 73; with_reducible exact Calls.quiet_of_same (DD.out _)))
            go_wp2
            have HOW := Lib.hid (show (wr.drewN nq).ownsRow w.heap.size 108 3 (.slice ao m co) (cutUp l (k + 1)).out.length (rowP (cutUp l (k + 1)).out) by
              rw [HC2.out, ← HO1.out, ← HM.out]
              exact HO.out)
            exact ⟨⟨k + 1, by omega, by go_num, by rw [HC2.out, ← HA1.out], by rw [HC2.out, ← HY1.out], HOW.out, below_drewN hbel _⟩, by simp [intOf]; omega⟩
          · have HC2 := Lib.hid (cutUp_joint HC.out HD.out HCN.out (by rw [← HA1.out]; exact hAk) (by rw [hgc, hgd]; rfl))
            rw [← HO1.out, ← HA1.out, ← HY1.out] at HC2
            clear hgc hgd
            go_wp2
            go_quiet (first | (go_at_call 73; with_reducible exact Calls.quiet_of_same (DC.out _)) | (go_at_call 73; with_reducible exact Calls.quiet_of_same (DD.out _)))
            have HOd := Lib.hid (show (wr.drewN nq).ownsRow w.heap.size 108 3 (.slice ao m co) m (rowP O) from HO.out)
            clear HO
            have HO := HOd
            have hbel2 := below_drewN hbel nq
            obtain ⟨wq, hwq⟩ : ∃ wq, wq = wr.drewN nq := ⟨_, rfl⟩
            have hz3 : w.heap.size ≤ wq.heap.size := by rw [hwq]; exact hz
            rw [← hwq] at HO hbel2 ⊢
            clear hwq
            go_wp2_with fail
            refine (HPT.out _ _).mono ?_
            rintro e w2 ⟨p, hp, rfl, hb2⟩
            have HP := Lib.hid hp; clear hp
            have ho1 := Lib.hid (own_below HO.out hb2)
            have hz2 := hb2.size
            go_wp2_with (at_builtin
                         refine app3 rfl _ _ 99 108 rfl _ 24 w.heap.size m Tryd.underlying99 pt_info rfl _ _ rfl ho1.out rfl rfl rfl rfl (by omega) (by omega) (by omega) ?_)
            intro v2 w3 ho2 hg3 hb3
            have HO2 := Lib.hid ho2; clear ho2
            go_wp2
            have HOW := Lib.hid (show w3.ownsRow w.heap.size 108 3 v2 (cutUp l (k + 1)).out.length (rowP (cutUp l (k + 1)).out) by
              rw [HC2.out]
              show w3.ownsRow w.heap.size 108 3 v2 (O ++ [mkPt (sl l A k) Y true]).length (rowP (O ++ [mkPt (sl l A k) Y true]))
              rw [rowP_snoc, List.length_append, ← HM.out, ← HP.out]
              exact HO2.out)
            exact ⟨⟨k + 1, by omega, by go_num, by rw [HC2.out], by rw [HC2.out], HOW.out, hbel2.trans ((hb2.mono hz3).trans hb3)⟩, by simp [intOf]; omega⟩
          · have HC2 := Lib.hid (cutUp_joint HC.out HD.out HCN.out (by rw [← HA1.out]; exact hAk) (by rw [hgc, hgd]; rfl))
            rw [← HO1.out, ← HA1.out, ← HY1.out] at HC2
            clear hgc hgd
            go_wp2
            go_quiet (first | (go_at_call 73; with_reducible exact Calls.quiet_of_same (DC.out _)) | (go_at_call 73; with_reducible exact Calls.quiet_of_same (DD.out _)))
            have HOd := Lib.hid (show (wr.drewN nq).ownsRow w.heap.size 108 3 (.slice ao m co) m (rowP O) from HO.out)
            clear HO
            have HO := HOd
            have hbel2 := below_drewN hbel nq
            obtain ⟨wq, hwq⟩ : ∃ wq, wq = wr.drewN nq := ⟨_, rfl⟩
            have hz3 : w.heap.size ≤ wq.heap.size := by rw [hwq]; exact hz
            rw [← hwq] at HO hbel2 ⊢
            clear hwq
            go_wp2_with fail
            refine (HPT.out _ _).mono ?_
            rintro e w2 ⟨p, hp, rfl, hb2⟩
            have HP := Lib.hid hp; clear hp
            have ho1 := Lib.hid (own_below HO.out hb2)
            have hz2 := hb2.size
            go_wp2_with (at_builtin
                         refine app3 rfl _ _ 99 108 rfl _ 24 w.heap.size m Tryd.underlying99 pt_info rfl _ _ rfl ho1.out rfl rfl rfl rfl (by omega) (by omega) (by omega) ?_)
            intro v2 w3 ho2 hg3 hb3
            have HO2 := Lib.hid ho2; clear ho2
            go_wp2
            have HOW := Lib.hid (show w3.ownsRow w.heap.size 108 3 v2 (cutUp l (k + 1)).out.length (rowP (cutUp l (k + 1)).out) by
              rw [HC2.out]
              show w3.ownsRow w.heap.size 108 3 v2 (O ++ [mkPt (sl l A k) Y true]).length (rowP (O ++ [mkPt (sl l A k) Y true]))
              rw [rowP_snoc, List.length_append, ← HM.out, ← HP.out]
              exact HO2.out)
            exact ⟨⟨k + 1, by omega, by go_num, by rw [HC2.out], by rw [HC2.out], HOW.out, hbel2.trans ((hb2.mono hz3).trans hb3)⟩, by simp [intOf]; omega⟩
          · have HC2 := Lib.hid (cutUp_same HC.out HD.out HCN.out (.inr (by rw [hgc, hgd]; rfl)))
            clear hgc hgd
            go_wp2
            go_quiet (first | (go_at_call 73; with_reducible exact Calls.quiet_of_same (DC.out _)) | (go_at_call 73; with_reducible exact Calls.quiet_of_same (DD.out _)))
            go_wp2
            have HOW := Lib.hid (show (wr.drewN nq).ownsRow w.heap.size 108 3 (.slice ao m co) (cutUp l (k + 1)).out.length (rowP (cutUp l (k + 1)).out) by
              rw [HC2.out, ← HO1.out, ← HM.out]
              exact HO.out)
            exact ⟨⟨k + 1, by omega, by go_num, by rw [HC2.out, ← HA1.out], by rw [HC2.out, ← HY1.out], HOW.out, below_drewN hbel _⟩, by simp [intOf]; omega⟩
        · have hAk2 : (k : Int) ≤ A := by omega
          have hdk : ∃ d, l[k - 1]? = some d := ⟨_, List.getElem?_eq_getElem (by rw [← HN.out]; omega)⟩
          have HC2 := Lib.hid (show cutUp l (k + 1) = cutUp l k by
            obtain ⟨d, hd⟩ := hdk
            exact cutUp_same HC.out hd HCN.out (.inl (by rw [← HA1.out]; exact hAk)))
          clear hdk
          go_wp2
          go_quiet (fail)
          go_wp2
          have HOW := Lib.hid (show (wr.drewN nq).ownsRow w.heap.size 108 3 (.slice ao m co) (cutUp l (k + 1)).out.length (rowP (cutUp l (k + 1)).out) by
            rw [HC2.out, ← HO1.out, ← HM.out]
            exact HO.out)
          exact ⟨⟨k + 1, by omega, by go_num, by rw [HC2.out, ← HA1.out], by rw [HC2.out, ← HY1.out], HOW.out, below_drewN hbel _⟩, by simp [intOf]; omega⟩
      · have HC2 := Lib.hid (HCUT.out hct)
        rw [h45] at HC2
        clear h45 hct
        go_wp2_with fail
        refine (HPT.out _ _).mono ?_
        rintro e w2 ⟨p, hp, rfl, hb2⟩
        have HP := Lib.hid hp; clear hp
        have ho1 := Lib.hid (own_below HO.out hb2)
        have hz2 := hb2.size
        go_wp2_with (at_builtin
                     refine app3 rfl _ _ 99 108 rfl _ 24 w.heap.size m Tryd.underlying99 pt_info rfl _ _ rfl ho1.out rfl rfl rfl rfl (by omega) (by omega) (by omega) ?_)
        intro v2 w3 ho2 hg3 hb3
        have HO2 := Lib.hid ho2; clear ho2
        go_wp2
        go_quiet (fail)
        go_wp2
        have HOW := Lib.hid (show (w3.drewN nq).ownsRow w.heap.size 108 3 v2 (cutUp l (k + 1)).out.length (rowP (cutUp l (k + 1)).out) by
          rw [HC2.out]
          show (w3.drewN nq).ownsRow w.heap.size 108 3 v2 (O ++ [mkPt (sl l A k) Y false]).length (rowP (O ++ [mkPt (sl l A k) Y false]))
          rw [rowP_snoc, List.length_append, ← HM.out, ← HP.out]
          exact HO2.out)
        exact ⟨⟨k + 1, by omega, by go_num, by rw [HC2.out]; go_num, by rw [HC2.out], HOW.out, below_drewN (hbel.trans ((hb2.mono hz).trans hb3)) _⟩, by simp [intOf]; omega⟩
      · have HC2 := Lib.hid (HCUT.out hct)
        rw [h45] at HC2
        clear h45 hct
        go_wp2_with fail
        refine (HPT.out _ _).mono ?_
        rintro e w2 ⟨p, hp, rfl, hb2⟩
        have HP := Lib.hid hp; clear hp
        have ho1 := Lib.hid (own_below HO.out hb2)
        have hz2 := hb2.size
        go_wp2_with (at_builtin
                     refine app3 rfl _ _ 99 108 rfl _ 24 w.heap.size m Tryd.underlying99 pt_info rfl _ _ rfl ho1.out rfl rfl rfl rfl (by omega) (by omega) (by omega) ?_)
        intro v2 w3 ho2 hg3 hb3
        have HO2 := Lib.hid ho2; clear ho2
        go_wp2
        go_quiet (fail)
        go_wp2
        have HOW := Lib.hid (show (w3.drewN nq).ownsRow w.heap.size 108 3 v2 (cutUp l (k + 1)).out.length (rowP (cutUp l (k + 1)).out) by
          rw [HC2.out]
          show (w3.drewN nq).ownsRow w.heap.size 108 3 v2 (O ++ [mkPt (sl l A k) Y false]).length (rowP (O ++ [mkPt (sl l A k) Y false]))
          rw [rowP_snoc, List.length_append, ← HM.out, ← HP.out]
          exact HO2.out)
        exact ⟨⟨k + 1, by omega, by go_num, by rw [HC2.out]; go_num, by rw [HC2.out], HOW.out, below_drewN (hbel.trans ((hb2.mono hz).trans hb3)) _⟩, by simp [intOf]; omega⟩
      · exfalso
        simp at e46 e45
        omega
    · have hkn : k = n := by omega
      subst hkn
      obtain ⟨O, hO1⟩ : ∃ O, O = (cutUp l k).out := ⟨_, rfl⟩
      obtain ⟨A, hA1⟩ : ∃ A, A = (cutUp l k).at_ := ⟨_, rfl⟩
      obtain ⟨Y, hY1⟩ : ∃ Y, Y = (cutUp l k).hy := ⟨_, rfl⟩
      rw [← hO1] at hO hown
      rw [← hA1] at hA
      rw [← hO1, ← hA1, ← hY1]
      have HO1 := Lib.hid hO1
      have HA1 := Lib.hid hA1
      have HY1 := Lib.hid hY1
      clear hO1 hA1 hY1
      obtain ⟨m, hm⟩ : ∃ m, m = O.length := ⟨_, rfl⟩
      rw [← hm] at hown hO ⊢
      have HM := Lib.hid hm; clear hm
      have HO := Lib.hid hown; clear hown
      have HPT := Lib.hid (fun j w => part_at l A k Y j w)
      go_wp2_with fail
      refine (HPT.out _ _).mono ?_
      rintro e w2 ⟨p, hp, rfl, hb2⟩
      have HP := Lib.hid hp; clear hp
      have ho1 := Lib.hid (own_below HO.out hb2)
      have hz2 := hb2.size
      go_wp2_with (at_builtin
                   refine app3 rfl _ _ 99 108 rfl _ 24 w.heap.size m Tryd.underlying99 pt_info rfl _ _ rfl ho1.out rfl rfl rfl rfl (by omega) (by omega) (by omega) ?_)
      intro v2 w3 ho2 hg3 hb3
      have hpl : parts0 l = O ++ [p] := by
        rw [HP0.out, ← HN.out, ← HO1.out, ← HA1.out, ← HY1.out, HP.out]
        congr 2
        unfold sl
        rw [List.take_of_length_le (by rw [← HN.out]; exact Nat.le_refl _)]
      have ho3 : w3.ownsRow w.heap.size 108 3 v2 (parts0 l).length (rowP (parts0 l)) := by
        rw [hpl, rowP_snoc, List.length_append, ← HM.out]
        exact ho2
      have htr := trimmed_any v2 (parts0 l) (by have := HP1.out; omega) (by rw [hpl]; simp) w3 (RdP.of_own ho3)
      have HTR := Lib.hid htr
      clear htr ho3 hpl ho2
      have hbw := hbel.trans ((hb2.mono hz).trans hb3)
      have hz3 := hbw.size
      go_wp2_with fail
      refine (HTR.out).mono ?_
      rintro e w4 ⟨u, rfl, hrd, hb4, htg⟩
      have HTG := Lib.hid htg; clear htg
      go_wp2
      go_ret
      refine ⟨u, rfl, ?_, hbw.trans (hb4.mono hz3), ?_⟩
      · rw [HPB.out]
        exact hrd
      · obtain ⟨g, n', cap, cur, fz, h1, h2, h3⟩ := HTG.out
        exact ⟨g, n', cap, cur, fz, h1, by omega, h3⟩
end Go.Proofs.YtnghagikchffiaaDoor
