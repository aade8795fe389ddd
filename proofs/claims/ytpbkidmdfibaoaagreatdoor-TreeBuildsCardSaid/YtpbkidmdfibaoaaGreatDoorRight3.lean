/-
  Layer 3: the answer's word for what may be a tree, sizes aside. Own work.
-/
import Derived.Test.YtpbkidmdfibaoaaGreatDoorSameN3
import Derived.Test.YtpbkidmdfibaoaaGreatDoorLts3
import Derived.Test.YtpbkidmdfibaoaaGreatDoorRd2c
namespace Go.Proofs.YtpbkidmdfibaoaaGreatDoor
set_option linter.unusedVariables false
set_option linter.unusedSimpArgs false
open Go.RowKit

/-- is it a name? -/
def nmB (n : List UInt8) : Bool := decide (n ≠ []) && decide (nameL n = n.length)
set_option maxHeartbeats 1000000 in
theorem refIsName_any (n : List UInt8) (hn : n.length ≤ 1000000) (w : World) : Calls Tryz.prog 53 #[.string (str n)] w fun e w' => e = .returned (.bool (nmB n)) ∧ w' = w := by
  obtain ⟨m, hm⟩ : ∃ m, m = nameL n := ⟨_, rfl⟩
  have HC := Lib.hid (show ∀ w, Calls Tryz.prog 78 #[.string (str n)] w fun e w' => e = .returned (.int .i64 (m : Int)) ∧ w' = w from fun w => (refName_any (str n) hn w).mono (by
    rintro e w' ⟨k, rfl, hk, rfl⟩
    rw [name_one hk (nameL_is n), ← hm]
    exact ⟨rfl, rfl⟩))
  have hb : nmB n = (decide (0 < (str n).size) && decide ((m : Int) = ((str n).size : Int))) := by
    unfold nmB
    rw [hm, size_str]
    congr 1
    · cases n <;> simp
    · simp [Int.ofNat_inj]
  rw [hb]
  have hsI : ((str n).size : Int) ≤ 1000000 := by have := hn; rw [size_str]; omega
  generalize str n = s at HC hsI ⊢
  clear hb hm
  cases h0 : decide (0 < s.size) with
  | false =>
    have h1 : ¬ (0 < (s.size : Int)) := by have := of_decide_eq_false h0; omega
    go_enter Tryz.func53, Tryz.ntmps53
    go_wp2_with fail
    go_ret
    exact ⟨rfl, rfl⟩
  | true =>
    have h1 : 0 < (s.size : Int) := by have := of_decide_eq_true h0; omega
    cases h2 : decide ((m : Int) = (s.size : Int)) with
    | false =>
      have h3 : ¬ ((m : Int) = (s.size : Int)) := by simpa using h2
      have h4 : ((m : Int) == (s.size : Int)) = false := by simpa using h3
      go_enter Tryz.func53, Tryz.ntmps53
      go_wp2_with fail
      refine (HC.out _).mono ?_
      rintro e w1 ⟨rfl, rfl⟩
      go_wp2_with fail
      go_ret
      exact ⟨rfl, rfl⟩
    | true =>
      have h3 : (m : Int) = (s.size : Int) := by simpa using h2
      have h4 : ((m : Int) == (s.size : Int)) = true := by simpa using h3
      go_enter Tryz.func53, Tryz.ntmps53
      go_wp2_with fail
      refine (HC.out _).mono ?_
      rintro e w1 ⟨rfl, rfl⟩
      go_wp2_with fail
      go_ret
      exact ⟨rfl, rfl⟩
/-- are all bytes a text's? -/
def plB (l : List UInt8) : Bool := l.all tx
set_option maxHeartbeats 1000000 in
theorem refPlain_any (l : List UInt8) (hl : l.length ≤ 1000000) (w : World) : Calls Tryz.prog 54 #[.string (str l)] w fun e w' => e = .returned (.bool (plB l)) ∧ w' = w := by
  have hsz : (str l).size = l.length := rfl
  have hll : (l.length : Int) ≤ 1000000 := by omega
  go_enter Tryz.func54, Tryz.ntmps54
  go_wp2_with fail
  go_loop [3] (fun i => ∃ k : Nat, k ≤ l.length ∧ i = .int .i64 k ∧ plB l = (l.drop k).all tx) (fun i => l.length - (intOf i).toNat)
  case atStart => exact ⟨0, Nat.zero_le _, rfl, rfl⟩
  case round =>
    obtain ⟨k, hk, rfl, hv⟩ := hrel
    by_cases hlt : k < l.length
    · obtain ⟨c, hc⟩ : ∃ c, l[k]? = some c := ⟨_, List.getElem?_eq_getElem hlt⟩
      have hik := hidx (str l) k c (by simpa [str] using hc)
      have hd : l.drop k = c :: l.drop (k + 1) := by
        obtain ⟨h1, h2⟩ := List.getElem?_eq_some_iff.1 hc
        rw [List.drop_eq_getElem_cons h1, h2]
      rw [hd, List.all_cons] at hv
      cases ht : tx c with
      | true =>
        have HIS := Lib.hid (fun w => is_at (c.toNat : Int) 16 true (by decide) (by decide) (by rw [(cls_all _).2.2.2.2]; exact ht) w)
        rw [ht, Bool.true_and] at hv
        have HV := Lib.hid hv
        clear hv ht hd hc
        go_wp2_with (go_at_call 48; refine (HIS.out _).mono ?_; rintro e w1 ⟨rfl, rfl⟩)
        go_round
        case rel => exact ⟨k + 1, by omega, by go_num, HV.out⟩
        case measure => simp [intOf]; omega
      | false =>
        have HIS := Lib.hid (fun w => is_at (c.toNat : Int) 16 false (by decide) (by decide) (by rw [(cls_all _).2.2.2.2]; exact ht) w)
        rw [ht, Bool.false_and] at hv
        have HV := Lib.hid hv
        clear hv ht hd hc
        go_wp2_with (go_at_call 48; refine (HIS.out _).mono ?_; rintro e w1 ⟨rfl, rfl⟩)
        go_ret
        exact ⟨ret_bool HV.out.symm, rfl⟩
    · rw [List.drop_eq_nil_of_le (by omega)] at hv
      have HV := Lib.hid hv
      have hle : (l.length : Int) ≤ k := by omega
      clear hv
      go_wp2_with fail
      go_ret
      exact ⟨ret_bool HV.out.symm, rfl⟩
/-! the answer's right -/
mutual
/-- texts are not too long -/
def Tr.tb : Tr → Prop
  | .mk n ats ks t => n.length ≤ 100000 ∧ t.length ≤ 100000 ∧ (∀ p ∈ ats, p.1.length ≤ 100000 ∧ p.2.length ≤ 100000) ∧ Tr.tbs ks
def Tr.tbs : List Tr → Prop
  | [] => True
  | k :: ks => k.tb ∧ Tr.tbs ks
end
theorem tbs_mem : ∀ {l : List Tr} {k : Tr}, Tr.tbs l → k ∈ l → k.tb
  | [], k, _, h => by simp at h
  | x :: l, k, hs, h => by
    rcases List.mem_cons.1 h with rfl | h
    · exact hs.1
    · exact tbs_mem hs.2 h
mutual
theorem sm_tb : ∀ x : Tr, x.sm → x.tb
  | .mk n ats ks t, h => ⟨by have := h.2.2.1; omega, by have := h.2.2.2.1; omega, fun p hp => by have := h.2.2.2.2.1 p hp; omega, sms_tbs ks h.2.2.2.2.2⟩
theorem sms_tbs : ∀ l : List Tr, Tr.sms l → Tr.tbs l
  | [], _ => trivial
  | k :: l, h => ⟨sm_tb k h.1, sms_tbs l h.2⟩
end
/-- may these be an element's attributes, behind these? -/
def atsB : List At2 → List At2 → Bool
  | _, [] => true
  | pre, a :: l => nmB a.1 && plB a.2 && !(pre.any fun b => a.1 == b.1) && atsB (pre ++ [a]) l
mutual
def Tr.rightB : Tr → Bool
  | .mk n ats ks t => nmB n && decide (t = []) && atsB [] ats && Tr.ksB false ks
/-- may these be an element's kids, where the one ahead is a text or not? -/
def Tr.ksB : Bool → List Tr → Bool
  | _, [] => true
  | b, .mk n ats ks t :: l => (if n = [] then decide (ats = []) && decide (ks = []) && decide (t ≠ []) && plB t && !b else Tr.rightB (.mk n ats ks t)) && Tr.ksB (decide (n = [])) l
end
theorem ksB_cons (b : Bool) (x : Tr) (l : List Tr) : Tr.ksB b (x :: l) = ((if x.n = [] then decide (x.ats = []) && decide (x.ks = []) && decide (x.t ≠ []) && plB x.t && !b else x.rightB) && Tr.ksB (decide (x.n = [])) l) := by
  cases x
  rw [Tr.ksB]
  rfl
theorem atsB_at {l : List At2} {k : Nat} {p : At2} (h : l[k]? = some p) : atsB (l.take k) (l.drop k) = (nmB p.1 && plB p.2 && !((l.take k).any fun b => p.1 == b.1) && atsB (l.take (k + 1)) (l.drop (k + 1))) := by
  obtain ⟨hk, rfl⟩ := List.getElem?_eq_some_iff.1 h
  rw [List.drop_eq_getElem_cons hk, atsB, take_snoc _ k _ h]
/-- is the one ahead of place k a text? -/
def preT (l : List Tr) (k : Nat) : Bool := decide (0 < k) && (match l[k - 1]? with | some y => decide (y.n = []) | none => false)
theorem ksB_at {l : List Tr} {k : Nat} {y : Tr} (h : l[k]? = some y) : Tr.ksB (preT l k) (l.drop k) = ((if y.n = [] then decide (y.ats = []) && decide (y.ks = []) && decide (y.t ≠ []) && plB y.t && !(preT l k) else y.rightB) && Tr.ksB (preT l (k + 1)) (l.drop (k + 1))) := by
  obtain ⟨hk, rfl⟩ := List.getElem?_eq_some_iff.1 h
  rw [List.drop_eq_getElem_cons hk, ksB_cons]
  congr 2
  simp [preT, h]
def RgS (x : Tr) : Prop := ∀ (va vk : Value) (w : World), NdV w (allF w) x va vk → Calls Tryz.prog 35 #[nodeV x va vk] w fun e w' => e = .returned (.bool x.rightB) ∧ Below w.heap.size w w'
theorem emp_str (l : List UInt8) : (str l).toList.isEmpty = decide (l = []) := by
  rw [ByteArray.toList_eq, toList_str]
  cases l <;> rfl
theorem empB_str (l : List UInt8) : ((str l).toList == []) = decide (l = []) := by
  rw [ByteArray.toList_eq, toList_str]
  cases l <;> rfl
abbrev Sr3 (X : Nat) (x : Tr) (c1 : Option Addr) (c2 : Nat) (c3 : Option Addr) (c4 : Nat) (w' : World) : Prop := w'.cell? ⟨X, 0, none⟩ = some (.string (str x.n)) ∧ w'.cell? ⟨X, 1, none⟩ = some (.slice c1 x.ats.length c2) ∧ w'.cell? ⟨X, 2, none⟩ = some (.slice c3 x.ks.length c4) ∧ w'.cell? ⟨X, 3, none⟩ = some (.string (str x.t))
theorem Sr3.below {X : Nat} {x : Tr} {c1 c3 : Option Addr} {c2 c4 : Nat} {w' w5 : World} {B : Nat} (h : Sr3 X x c1 c2 c3 c4 w') (hb : Below B w' w5) (hB : w'.heap.size ≤ B) : Sr3 X x c1 c2 c3 c4 w5 := by
  obtain ⟨h0, h1, h2, h3⟩ := h
  have hc : ∀ {A : Addr} {v : Value}, w'.cell? A = some v → w5.cell? A = some v := fun h => (hb.cell (Nat.lt_of_lt_of_le (World.block_lt_of_cell? w' _ h) hB)).trans h
  exact ⟨hc h0, hc h1, hc h2, hc h3⟩
set_option maxRecDepth 100000 in
set_option maxHeartbeats 4000000 in
theorem right_step (x : Tr) (htb : x.tb) (hS : ∀ k ∈ x.ks, RgS k) : RgS x := by
  intro va vk w hx
  obtain ⟨c1, c2, c3, c4, rfl, rfl⟩ := node_cells hx
  unfold nodeV
  obtain ⟨R, hR⟩ : ∃ R, R = x.rightB := ⟨_, rfl⟩
  rw [← hR]
  have hR2 : R = (nmB x.n && decide (x.t = []) && atsB [] x.ats && Tr.ksB false x.ks) := by rw [hR]; cases x; rfl
  clear hR
  obtain ⟨hbn, hbt, hba, hbk⟩ : x.n.length ≤ 100000 ∧ x.t.length ≤ 100000 ∧ (∀ p ∈ x.ats, p.1.length ≤ 100000 ∧ p.2.length ≤ 100000) ∧ Tr.tbs x.ks := by cases x; exact htb
  obtain ⟨w1, hw1⟩ : ∃ w1, w1 = w.alloc (.cells #[.string (str x.n), .slice c1 x.ats.length c2, .slice c3 x.ks.length c4, .string (str x.t)] 26) := ⟨_, rfl⟩
  have hb1 : Below w.heap.size w w1 := by rw [hw1]; exact (Below.refl _ _).alloc (Nat.le_refl _) _
  have hX : w1.heap[w.heap.size]? = some (.cells #[.string (str x.n), .slice c1 x.ats.length c2, .slice c3 x.ks.length c4, .string (str x.t)] 26 (0, 0)) := by rw [hw1]; exact heap_alloc_new w _
  have HXC := Lib.hid (show ∀ w2, Below w1.heap.size w1 w2 → Sr3 w.heap.size x c1 c2 c3 c4 w2 from fun w2 hb => Sr3.below ⟨by rw [cell_of_row w1 _ 0 _ _ (0, 0) hX]; rfl, by rw [cell_of_row w1 _ 1 _ _ (0, 0) hX]; rfl, by rw [cell_of_row w1 _ 2 _ _ (0, 0) hX]; rfl, by rw [cell_of_row w1 _ 3 _ _ (0, 0) hX]; rfl⟩ hb (Nat.le_refl _))
  have hup : ∀ w2, Below w1.heap.size w1 w2 → Below w.heap.size w w2 := fun w2 hb => hb1.trans (hb.mono hb1.size)
  have HUP := Lib.hid hup
  have HN := Lib.hid (show ∀ w2, Below w1.heap.size w1 w2 → NdV w2 (allF w2) x (.slice c1 x.ats.length c2) (.slice c3 x.ks.length c4) from fun w2 hb => hx.onto (hup w2 hb) (Nat.le_refl _))
  have HKD := Lib.hid (show ∀ w2, Below w1.heap.size w1 w2 → RdSl 4 (NdAt w2 (allF w2)) (.slice c3 x.ks.length c4) x.ks from fun w2 hb => (HN.out w2 hb).rd)
  have HAD := Lib.hid (show ∀ w2, Below w1.heap.size w1 w2 → RdAs w2 (.slice c1 x.ats.length c2) x.ats from fun w2 hb => (HN.out w2 hb).ats)
  have hal : (x.ats.length : Int) ≤ 9223372036854775807 := by have := RdSl.len hx.ats; omega
  have hkl : (x.ks.length : Int) ≤ 9223372036854775807 := by have := RdSl.len hx.rd; omega
  have HW1 := Lib.hid hw1
  have HBA := Lib.hid hba
  have HBK := Lib.hid hbk
  have HS := Lib.hid hS
  have HNM := Lib.hid (show ∀ w, Calls Tryz.prog 53 #[.string (str x.n)] w fun e w' => e = .returned (.bool (nmB x.n)) ∧ w' = w from fun w => refIsName_any x.n (by omega) w)
  have het := emp_str x.t
  have het2 := empB_str x.t
  clear hx hw1 hb1 hX hup hba hbk hS htb
  go_enter Tryz.func35, Tryz.ntmps35
  go_upto_region 1 with fail
  rw [← HW1.out]
  obtain ⟨x0, x1, x2, x3⟩ := HXC.out w1 (Below.refl _ _)
  have HUR := Lib.hid (HUP.out w1 (Below.refl _ _))
  cases hn : nmB x.n with
  | false =>
    rw [hn] at hR2 HNM
    have HR := Lib.hid (show R = false by rw [hR2]; simp)
    clear hn hR2
    go_wp2_with (go_at_call 53; refine (HNM.out _).mono ?_; rintro e w2 ⟨rfl, rfl⟩)
    go_ret
    exact ⟨ret_bool HR.out.symm, HUR.out⟩
  | true =>
    rw [hn] at hR2 HNM
    cases ht : decide (x.t = []) with
    | false =>
      rw [ht] at hR2 het het2
      have HR := Lib.hid (show R = false by rw [hR2]; simp)
      clear hn hR2 ht
      go_wp2_with (go_at_call 53; refine (HNM.out _).mono ?_; rintro e w2 ⟨rfl, rfl⟩)
      go_ret
      exact ⟨ret_bool HR.out.symm, HUR.out⟩
    | true =>
      rw [ht] at hR2 het het2
      have HR := Lib.hid (show R = (atsB (x.ats.take 0) (x.ats.drop 0) && Tr.ksB false x.ks) by rw [hR2]; simp)
      clear hn hR2 ht
      go_upto_region 4 with (go_at_call 53; refine (HNM.out _).mono ?_; rintro e w2 ⟨rfl, hw2⟩; obtain rfl : w1 = w2 := hw2.symm)
      clear x0 x1 x2 x3 het het2
      go_loopw [21] (fun i wr => ∃ k : Nat, k ≤ x.ats.length ∧ i = .int .i64 k ∧ R = (atsB (x.ats.take k) (x.ats.drop k) && Tr.ksB false x.ks) ∧ Below w1.heap.size w1 wr) (fun i _ => x.ats.length - (intOf i).toNat)
      case atStart => exact ⟨0, by omega, rfl, HR.out, Below.refl _ _⟩
      case round =>
        obtain ⟨k, hk, rfl, hv, hbw⟩ := hrel
        have HB := Lib.hid hbw
        by_cases hlt : k < x.ats.length
        · obtain ⟨p, hp⟩ : ∃ p, x.ats[k]? = some p := ⟨_, List.getElem?_eq_getElem hlt⟩
          obtain ⟨a, rfl, q0, q1⟩ := RdSl.elem (HAD.out wr hbw) hp
          have hcap : x.ats.length ≤ c2 := by
            rcases HAD.out wr hbw with ⟨h1, _⟩ | ⟨a', cap, h1, h2, _⟩
            · cases h1
            · cases h1; exact h2
          have hkI : (k : Int) < (x.ats.length : Int) := by omega
          have hkc : (k : Int) ≤ (c2 : Int) := by omega
          rw [atsB_at hp] at hv
          have HP := Lib.hid (HBA.out p (List.mem_of_getElem? hp))
          obtain ⟨wb, hwb⟩ : ∃ wb, wb = wr.alloc (.cells #[.string (str p.1), .string (str p.2)] 68) := ⟨_, rfl⟩
          have hbb : Below wr.heap.size wr wb := by rw [hwb]; exact (Below.refl _ _).alloc (Nat.le_refl _) _
          have hrow : wb.heap[wr.heap.size]? = some (.cells #[.string (str p.1), .string (str p.2)] 68 (0, 0)) := by rw [hwb]; exact heap_alloc_new wr _
          have r0 : wb.cell? ⟨wr.heap.size, 0, none⟩ = some (.string (str p.1)) := by rw [cell_of_row wb _ 0 _ _ (0, 0) hrow]; rfl
          have r1 : wb.cell? ⟨wr.heap.size, 1, none⟩ = some (.string (str p.2)) := by rw [cell_of_row wb _ 1 _ _ (0, 0) hrow]; rfl
          have HBW := Lib.hid (hbw.trans (hbb.mono hbw.size))
          have HWB := Lib.hid hwb
          have HNP := Lib.hid (show ∀ w, Calls Tryz.prog 53 #[.string (str p.1)] w fun e w' => e = .returned (.bool (nmB p.1)) ∧ w' = w from fun w => refIsName_any p.1 (by have := HP.out; omega) w)
          have HPL := Lib.hid (show ∀ w, Calls Tryz.prog 54 #[.string (str p.2)] w fun e w' => e = .returned (.bool (plB p.2)) ∧ w' = w from fun w => refPlain_any p.2 (by have := HP.out; omega) w)
          have HUW := Lib.hid (HUP.out wb HBW.out)
          clear hp hbw hwb hbb hrow
          go_upto_region 6 with fail
          rw [← HWB.out]
          generalize wr.heap.size = Y at r0 r1 ⊢
          clear q0 q1
          cases hnp : nmB p.1 with
          | false =>
            rw [hnp] at hv HNP
            have HV := Lib.hid (show R = false by rw [hv]; simp)
            clear hv hnp
            go_wp2_with (go_at_call 53; refine (HNP.out _).mono ?_; rintro e w2 ⟨rfl, hw2⟩; obtain rfl : wb = w2 := hw2.symm)
            go_ret
            exact ⟨ret_bool HV.out.symm, HUW.out⟩
          | true =>
            rw [hnp] at hv HNP
            cases hpl : plB p.2 with
            | false =>
              rw [hpl] at hv HPL
              have HV := Lib.hid (show R = false by rw [hv]; simp)
              clear hv hnp hpl
              go_wp2_with (first | (go_at_call 53; refine (HNP.out _).mono ?_; rintro e w2 ⟨rfl, hw2⟩; obtain rfl : wb = w2 := hw2.symm) | (go_at_call 54; refine (HPL.out _).mono ?_; rintro e w2 ⟨rfl, hw2⟩; obtain rfl : wb = w2 := hw2.symm))
              go_ret
              exact ⟨ret_bool HV.out.symm, HUW.out⟩
            | true =>
              rw [hpl] at hv HPL
              have HV := Lib.hid (show R = ((!((x.ats.take k).any fun b => p.1 == b.1) && atsB (x.ats.take (k + 1)) (x.ats.drop (k + 1))) && Tr.ksB false x.ks) by rw [hv]; simp)
              clear hv hnp hpl
              obtain ⟨x0, x1, x2, x3⟩ := HXC.out wb HBW.out
              go_upto_region 9 with (first | (go_at_call 53; refine (HNP.out _).mono ?_; rintro e w2 ⟨rfl, hw2⟩; obtain rfl : wb = w2 := hw2.symm) | (go_at_call 54; refine (HPL.out _).mono ?_; rintro e w2 ⟨rfl, hw2⟩; obtain rfl : wb = w2 := hw2.symm))
              clear x0 x1 x2 x3
              go_loopw [41] (fun i wr => ∃ j : Nat, j ≤ k ∧ i = .int .i64 j ∧ ((x.ats.take j).any fun b => p.1 == b.1) = false ∧ Below wb.heap.size wb wr) (fun i _ => k - (intOf i).toNat)
              case atStart => exact ⟨0, by omega, rfl, rfl, Below.refl _ _⟩
              case round =>
                obtain ⟨j, hj, rfl, hany, hbq⟩ := hrel
                have HBQ := Lib.hid hbq
                by_cases hlj : j < k
                · obtain ⟨p2, hp2⟩ : ∃ p2, x.ats[j]? = some p2 := ⟨_, List.getElem?_eq_getElem (by omega)⟩
                  obtain ⟨a', ea, t0, t1⟩ := RdSl.elem (HAD.out wr (HBW.out.trans (hbq.mono HBW.out.size))) hp2
                  cases ea
                  have hjI : (j : Int) < (k : Int) := by omega
                  have hr0 := (hbq.cell (World.block_lt_of_cell? wb _ r0)).trans r0
                  have HTK := Lib.hid (show ((x.ats.take (j + 1)).any fun b => p.1 == b.1) = (p.1 == p2.1) by rw [take_snoc _ j p2 hp2, List.any_append, hany]; simp)
                  have hY : Y < wb.heap.size := World.block_lt_of_cell? wb _ r0
                  have hcell : ∀ o, (wr.alloc o).cell? ⟨Y, 0, none⟩ = some (.string (str p.1)) := fun o => (((Below.refl wr.heap.size wr).alloc (Nat.le_refl _) o).cell (World.block_lt_of_cell? wr _ hr0)).trans hr0
                  have hc1 := hcell (.cells #[.string (str p2.1), .string (str p2.2)] 68)
                  have HBZ := Lib.hid (hbq.trans (((Below.refl wr.heap.size wr).alloc (Nat.le_refl _) (.cells #[.string (str p2.1), .string (str p2.2)] 68)).mono hbq.size))
                  have hstr : ((str p.1).toList == (str p2.1).toList) = (p.1 == p2.1) := by rw [ByteArray.toList_eq, ByteArray.toList_eq, toList_str, toList_str]
                  have HLT := Lib.hid (show ((x.ats.take k).any fun b => p.1 == b.1) = true ∨ (p.1 == p2.1) = false by
                    cases hq : (p.1 == p2.1) with
                    | false => exact .inr rfl
                    | true => exact .inl (List.any_eq_true.2 ⟨p2, List.mem_of_getElem? (by rw [List.getElem?_take_of_lt hlj]; exact hp2), hq⟩))
                  clear hany hbq hp2 hcell hr0 r0 r1 hY
                  cases hq : (p.1 == p2.1) with
                  | true =>
                    rw [hq] at hstr
                    have HV2 := Lib.hid (show R = false by
                      rcases HLT.out with h | h
                      · rw [HV.out, h]; simp
                      · rw [hq] at h; cases h)
                    have HUZ := Lib.hid (HUP.out _ (HBW.out.trans (HBZ.out.mono HBW.out.size)))
                    clear hq
                    go_wp2_with fail
                    go_ret
                    exact ⟨ret_bool HV2.out.symm, HUZ.out⟩
                  | false =>
                    rw [hq] at hstr
                    have HTK2 := Lib.hid (HTK.out.trans hq)
                    clear hq
                    go_wp2_with fail
                    go_roundw
                    case rel => exact ⟨j + 1, by omega, by go_num, HTK2.out, HBZ.out⟩
                    case measure => simp [intOf]; omega
                · have hle : (k : Int) ≤ j := by omega
                  obtain rfl : j = k := by omega
                  have HV2 := Lib.hid (show R = (atsB (x.ats.take (j + 1)) (x.ats.drop (j + 1)) && Tr.ksB false x.ks) by rw [HV.out, hany]; simp)
                  have HBY := Lib.hid (HBW.out.trans (hbq.mono HBW.out.size))
                  clear hbq r0 r1 hany
                  go_wp2_with fail
                  go_roundw
                  case rel => exact ⟨j + 1, by omega, by go_num, HV2.out, HBY.out⟩
                  case measure => simp [intOf]; omega
        · have hle : (x.ats.length : Int) ≤ k := by omega
          have HK0 := Lib.hid (show R = Tr.ksB (preT x.ks 0) (x.ks.drop 0) by
            rw [hv, List.drop_eq_nil_of_le (by omega)]
            cases x.ats.take k <;> simp [atsB, preT])
          obtain ⟨x0, x1, x2, x3⟩ := HXC.out wr hbw
          clear hv hbw
          go_upto_region 16 with fail
          clear x0 x1 x2 x3
          go_loopw [55] (fun i w9 => ∃ m : Nat, m ≤ x.ks.length ∧ i = .int .i64 m ∧ R = Tr.ksB (preT x.ks m) (x.ks.drop m) ∧ Below w1.heap.size w1 w9) (fun i _ => x.ks.length - (intOf i).toNat)
          case atStart => exact ⟨0, by omega, rfl, HK0.out, HB.out⟩
          case round =>
            obtain ⟨m, hm, rfl, hv, hbw⟩ := hrel
            have HB9 := Lib.hid hbw
            by_cases hlm : m < x.ks.length
            · obtain ⟨y, hy⟩ : ∃ y, x.ks[m]? = some y := ⟨_, List.getElem?_eq_getElem hlm⟩
              obtain ⟨a, rfl, ya, yk, ⟨q0, q1, q2, q3⟩, hny⟩ := RdSl.elem (HKD.out wr hbw) hy
              obtain ⟨s1, s2, s3, s4, rfl, rfl⟩ := node_cells hny
              have hmI : (m : Int) < (x.ks.length : Int) := by omega
              obtain ⟨wb, hwb⟩ : ∃ wb, wb = wr.alloc (.cells #[.string (str y.n), .slice s1 y.ats.length s2, .slice s3 y.ks.length s4, .string (str y.t)] 26) := ⟨_, rfl⟩
              have hbb : Below wr.heap.size wr wb := by rw [hwb]; exact (Below.refl _ _).alloc (Nat.le_refl _) _
              have hrow : wb.heap[wr.heap.size]? = some (.cells #[.string (str y.n), .slice s1 y.ats.length s2, .slice s3 y.ks.length s4, .string (str y.t)] 26 (0, 0)) := by rw [hwb]; exact heap_alloc_new wr _
              have r0 : wb.cell? ⟨wr.heap.size, 0, none⟩ = some (.string (str y.n)) := by rw [cell_of_row wb _ 0 _ _ (0, 0) hrow]; rfl
              have r1 : wb.cell? ⟨wr.heap.size, 1, none⟩ = some (.slice s1 y.ats.length s2) := by rw [cell_of_row wb _ 1 _ _ (0, 0) hrow]; rfl
              have r2 : wb.cell? ⟨wr.heap.size, 2, none⟩ = some (.slice s3 y.ks.length s4) := by rw [cell_of_row wb _ 2 _ _ (0, 0) hrow]; rfl
              have r3 : wb.cell? ⟨wr.heap.size, 3, none⟩ = some (.string (str y.t)) := by rw [cell_of_row wb _ 3 _ _ (0, 0) hrow]; rfl
              have HC := Lib.hid (HS.out y (List.mem_of_getElem? hy) _ _ wb (hny.onto hbb (Nat.le_refl _)))
              unfold nodeV at HC
              have HBW := Lib.hid (hbw.trans (hbb.mono hbw.size))
              have HUW := Lib.hid (HUP.out wb HBW.out)
              have HWB := Lib.hid hwb
              have hyt : y.t.length ≤ 100000 := by have := tbs_mem HBK.out (List.mem_of_getElem? hy); cases y; exact this.2.1
              have HPL := Lib.hid (show ∀ w, Calls Tryz.prog 54 #[.string (str y.t)] w fun e w' => e = .returned (.bool (plB y.t)) ∧ w' = w from fun w => refPlain_any y.t (by omega) w)
              rw [ksB_at hy] at hv
              have hE := emp_str y.n
              have hE2 := empB_str y.n
              have hT := emp_str y.t
              have hT2 := empB_str y.t
              obtain ⟨x0, x1, x2, x3⟩ := HXC.out wb HBW.out
              have HPRE := Lib.hid (show ∀ j, m = j + 1 → ∃ z, x.ks[j]? = some z ∧ preT x.ks m = decide (z.n = []) ∧ wb.cell? (a.add (j * 4)) = some (.string (str z.n)) from fun j hj => by
                obtain ⟨z, hz⟩ : ∃ z, x.ks[j]? = some z := ⟨_, List.getElem?_eq_getElem (by omega)⟩
                obtain ⟨a', ea, _, _, ⟨z0, _, _, _⟩, _⟩ := RdSl.elem (HKD.out wr hbw) hz
                cases ea
                refine ⟨z, hz, ?_, (hbb.cell (World.block_lt_of_cell? wr _ z0)).trans z0⟩
                subst hj
                simp [preT, hz])
              clear hy hbw hwb hbb hrow hny
              go_upto_region 18 with fail
              rw [← HWB.out]
              generalize wr.heap.size = Y at r0 r1 r2 r3 ⊢
              clear q0 q1 q2 q3
              by_cases hyn : y.n = []
              · rw [if_pos hyn] at hv
                have hd : decide (y.n = []) = true := by simp [hyn]
                rw [hd] at hE hE2
                clear HC hyn hd
                have HLA := Lib.hid (show ∀ L, y.ats.length = L → (decide (y.ats = []) = false → 0 < (L : Int)) ∧ (decide (y.ats = []) = true → ¬ (0 < (L : Int))) from fun L hL => ⟨fun h => by have := List.length_pos_iff.2 (of_decide_eq_false h); omega, fun h => by rw [of_decide_eq_true h] at hL; simp at hL; omega⟩)
                have HLK := Lib.hid (show ∀ L, y.ks.length = L → (decide (y.ks = []) = false → 0 < (L : Int)) ∧ (decide (y.ks = []) = true → ¬ (0 < (L : Int))) from fun L hL => ⟨fun h => by have := List.length_pos_iff.2 (of_decide_eq_false h); omega, fun h => by rw [of_decide_eq_true h] at hL; simp at hL; omega⟩)
                generalize hLa : y.ats.length = La at r1 ⊢
                generalize hLk : y.ks.length = Lk at r2 ⊢
                have HLA2 := Lib.hid (HLA.out La hLa)
                have HLK2 := Lib.hid (HLK.out Lk hLk)
                rw [hLa, hLk] at HWB
                clear HLA HLK hLa hLk
                cases hca : decide (y.ats = []) with
                | false =>
                  rw [hca] at hv
                  have hna : 0 < (La : Int) := HLA2.out.1 hca
                  have HV := Lib.hid (show R = false by rw [hv]; simp)
                  clear hv HPRE hca
                  go_wp2_with (go_at_call 54; refine (HPL.out _).mono ?_; rintro e w2 ⟨rfl, hw2⟩; obtain rfl : wb = w2 := hw2.symm)
                  go_ret
                  exact ⟨ret_bool HV.out.symm, HUW.out⟩
                | true =>
                  rw [hca] at hv
                  have hna : ¬ (0 < (La : Int)) := HLA2.out.2 hca
                  clear hca
                  cases hck : decide (y.ks = []) with
                  | false =>
                    rw [hck] at hv
                    have hnk : 0 < (Lk : Int) := HLK2.out.1 hck
                    have HV := Lib.hid (show R = false by rw [hv]; simp)
                    clear hv HPRE hck
                    go_wp2_with (go_at_call 54; refine (HPL.out _).mono ?_; rintro e w2 ⟨rfl, hw2⟩; obtain rfl : wb = w2 := hw2.symm)
                    go_ret
                    exact ⟨ret_bool HV.out.symm, HUW.out⟩
                  | true =>
                    rw [hck] at hv
                    have hnk : ¬ (0 < (Lk : Int)) := HLK2.out.2 hck
                    clear hck
                    cases hct : decide (y.t = []) with
                    | true =>
                      rw [hct] at hT hT2
                      have ht2 : decide (y.t ≠ []) = false := by simpa using hct
                      rw [ht2] at hv
                      clear ht2
                      have HV := Lib.hid (show R = false by rw [hv]; simp)
                      clear hv HPRE hct
                      go_wp2_with (go_at_call 54; refine (HPL.out _).mono ?_; rintro e w2 ⟨rfl, hw2⟩; obtain rfl : wb = w2 := hw2.symm)
                      go_ret
                      exact ⟨ret_bool HV.out.symm, HUW.out⟩
                    | false =>
                      rw [hct] at hT hT2
                      have ht2 : decide (y.t ≠ []) = true := by simpa using hct
                      rw [ht2] at hv
                      clear ht2 hct
                      cases hpl : plB y.t with
                      | false =>
                        rw [hpl] at hv HPL
                        have HV := Lib.hid (show R = false by rw [hv]; simp)
                        clear hv HPRE hpl
                        go_wp2_with (go_at_call 54; refine (HPL.out _).mono ?_; rintro e w2 ⟨rfl, hw2⟩; obtain rfl : wb = w2 := hw2.symm)
                        go_ret
                        exact ⟨ret_bool HV.out.symm, HUW.out⟩
                      | true =>
                        rw [hpl] at hv HPL
                        clear hpl
                        cases m with
                        | zero =>
                          rw [show preT x.ks 0 = false by simp [preT]] at hv
                          have HV := Lib.hid (show R = Tr.ksB (preT x.ks (0 + 1)) (x.ks.drop (0 + 1)) by rw [hv]; simp)
                          clear hv HPRE
                          go_wp2_with (go_at_call 54; refine (HPL.out _).mono ?_; rintro e w2 ⟨rfl, hw2⟩; obtain rfl : wb = w2 := hw2.symm)
                          clear x0 x1 x2 x3 r0 r1 r2 r3
                          go_roundw
                          case rel => exact ⟨0 + 1, by omega, by go_num, HV.out, HBW.out⟩
                          case measure => simp [intOf]; omega
                        | succ j =>
                          obtain ⟨z, hz, hpz, hcz⟩ := HPRE.out j rfl
                          have hwr : IntKind.i64.wrap (((j + 1 : Nat) : Int) - 1) = (j : Int) := by rw [IntWalk.i64_in _ (by omega)]; omega
                          have hj0 : 0 < ((j + 1 : Nat) : Int) := by omega
                          have hjI : (j : Int) < (x.ks.length : Int) := by omega
                          have hZ := emp_str z.n
                          have hZ2 := empB_str z.n
                          rw [hpz] at hv
                          clear HPRE hz hpz
                          cases hzn : decide (z.n = []) with
                          | true =>
                            rw [hzn] at hv hZ hZ2
                            have HV := Lib.hid (show R = false by rw [hv]; simp)
                            clear hv hzn
                            go_wp2_with (go_at_call 54; refine (HPL.out _).mono ?_; rintro e w2 ⟨rfl, hw2⟩; obtain rfl : wb = w2 := hw2.symm)
                            go_ret
                            exact ⟨ret_bool HV.out.symm, HUW.out⟩
                          | false =>
                            rw [hzn] at hv hZ hZ2
                            have HV := Lib.hid (show R = Tr.ksB (preT x.ks ((j + 1) + 1)) (x.ks.drop ((j + 1) + 1)) by rw [hv]; simp)
                            clear hv hzn
                            go_wp2_with (go_at_call 54; refine (HPL.out _).mono ?_; rintro e w2 ⟨rfl, hw2⟩; obtain rfl : wb = w2 := hw2.symm)
                            clear x0 x1 x2 x3 r0 r1 r2 r3
                            go_roundw
                            case rel => exact ⟨(j + 1) + 1, by omega, by go_num, HV.out, HBW.out⟩
                            case measure => simp [intOf]; omega
              · rw [if_neg hyn] at hv
                have hd : decide (y.n = []) = false := by simp [hyn]
                rw [hd] at hE hE2
                cases hyr : y.rightB with
                | false =>
                  rw [hyr] at hv HC
                  have HV := Lib.hid (show R = false by rw [hv]; simp)
                  clear hv hyr hyn hd HPRE
                  go_wp2_with (go_at_call 35; refine HC.out.mono ?_; rintro e w5 ⟨rfl, hb5⟩)
                  go_ret
                  exact ⟨ret_bool HV.out.symm, HUW.out.trans (hb5.mono HUW.out.size)⟩
                | true =>
                  rw [hyr] at hv HC
                  have HV := Lib.hid (show R = Tr.ksB (preT x.ks (m + 1)) (x.ks.drop (m + 1)) by rw [hv]; simp)
                  clear hv hyr hyn hd HPRE x0 x1 x2 x3
                  go_wp2_with (go_at_call 35; refine HC.out.mono ?_; rintro e w5 ⟨rfl, hb5⟩)
                  have HB5 := Lib.hid (HBW.out.trans (hb5.mono HBW.out.size))
                  clear hb5 r0 r1 r2 r3
                  go_roundw
                  case rel => exact ⟨m + 1, by omega, by go_num, HV.out, HB5.out⟩
                  case measure => simp [intOf]; omega
            · have hle2 : (x.ks.length : Int) ≤ m := by omega
              have HV := Lib.hid (show R = true by rw [hv, List.drop_eq_nil_of_le (by omega)]; simp [Tr.ksB])
              have HUW := Lib.hid (HUP.out wr hbw)
              clear hv hbw
              go_wp2_with fail
              go_ret
              exact ⟨ret_bool HV.out.symm, HUW.out⟩
theorem right_all : ∀ (m : Nat) (x : Tr), x.size ≤ m → x.tb → RgS x
  | 0, x, h, _ => absurd x.size_pos (by omega)
  | m + 1, x, h, hs => right_step x hs fun k hk => by
    have h1 := Tr.size_mem hk
    have h2 := x.size_ks
    refine right_all m k (by omega) ?_
    cases x
    exact tbs_mem hs.2.2.2 hk
theorem right_any (x : Tr) (hs : x.tb) : RgS x := right_all x.size x (Nat.le_refl _) hs
end Go.Proofs.YtpbkidmdfibaoaaGreatDoor
