/-
  Layer 3: the card TreeStays: of any text there is an error with its place, or a tree that may be, whose printing is built as that tree. For every input. (With the parts MayT3, MayC3, MayW3, Sty3.) Own work.
-/
import Derived.Test.YtpbkidmdfibaoaaGreatDoorPrtZ3
import Derived.Maps.OwnSet
import Derived.WideKeyEntry
import Derived.DeepKeys4
import Derived.Laws.EntriesVeiled
import Derived.Test.YtpbkidmdfibaoaaGreatDoorLives3
import Derived.Test.YtpbkidmdfibaoaaGreatDoorRefS3
import Derived.Test.YtpbkidmdfibaoaaGreatDoorDoor
import Derived.Lib.LaidU8
namespace Go.Proofs.YtpbkidmdfibaoaaGreatDoor
set_option linter.unusedVariables false
set_option linter.unusedSimpArgs false


/-! MayT3 -/
section
open Go.RowKit Go.WideElems Go.MapKept

set_option maxHeartbeats 1000000 in
theorem mIsText_any (l : List UInt8) (hl : l.length ≤ 1000000) (w : World) : Calls Tryz.prog 51 #[.string (str l)] w fun e w' => e = .returned (.bool (plB l)) ∧ w' = w := by
  have hsz : (str l).size = l.length := rfl
  have hll : (l.length : Int) ≤ 1000000 := by omega
  go_enter Tryz.func51, Tryz.ntmps51
  go_wp2_with fail
  go_loop [6] (fun i => ∃ k : Nat, k ≤ l.length ∧ i = .int .i64 k ∧ plB l = (l.drop k).all tx) (fun i => l.length - (intOf i).toNat)
  case atStart => exact ⟨0, Nat.zero_le _, rfl, rfl⟩
  case round =>
    obtain ⟨k, hk, rfl, hv⟩ := hrel
    by_cases hlt : k < l.length
    · obtain ⟨c, hc⟩ : ∃ c, l[k]? = some c := ⟨_, List.getElem?_eq_getElem hlt⟩
      have hik := hidx (str l) k c (by simpa [str] using hc)
      have hd : l.drop k = c :: l.drop (k + 1) := by
        obtain ⟨h1, h2⟩ := List.getElem?_eq_some_iff.1 hc
        rw [List.drop_eq_getElem_cons h1, h2]
      rw [hd, List.all_cons] at hv
      cases ht : tx c with
      | true =>
        have HIS := Lib.hid (show ∀ w, Calls Tryz.prog 75 #[.int .u8 (c.toNat : Int)] w fun e w' => e = .returned (.bool true) ∧ w' = w from fun w => by rw [← ht]; exact IsText_any (c.toNat : Int) w)
        rw [ht, Bool.true_and] at hv
        have HV := Lib.hid hv
        clear hv ht hd hc
        go_wp2_with (go_at_call 75; refine (HIS.out _).mono ?_; rintro e w1 ⟨rfl, rfl⟩)
        go_round
        case rel => exact ⟨k + 1, by omega, by go_num, HV.out⟩
        case measure => simp [intOf]; omega
      | false =>
        have HIS := Lib.hid (show ∀ w, Calls Tryz.prog 75 #[.int .u8 (c.toNat : Int)] w fun e w' => e = .returned (.bool false) ∧ w' = w from fun w => by rw [← ht]; exact IsText_any (c.toNat : Int) w)
        rw [ht, Bool.false_and] at hv
        have HV := Lib.hid hv
        clear hv ht hd hc
        go_wp2_with (go_at_call 75; refine (HIS.out _).mono ?_; rintro e w1 ⟨rfl, rfl⟩)
        go_ret
        exact ⟨ret_bool HV.out.symm, rfl⟩
    · rw [List.drop_eq_nil_of_le (by omega)] at hv
      have HV := Lib.hid hv
      have hle : (l.length : Int) ≤ k := by omega
      clear hv
      go_wp2_with fail
      go_ret
      exact ⟨ret_bool HV.out.symm, rfl⟩
set_option maxHeartbeats 1000000 in
theorem mIsName_any (n : List UInt8) (hn : n.length ≤ 1000000) (w : World) : Calls Tryz.prog 33 #[.string (str n)] w fun e w' => e = .returned (.bool (nmB n)) ∧ w' = w := by
  obtain ⟨m, hm⟩ : ∃ m, m = nameL n := ⟨_, rfl⟩
  have HC := Lib.hid (show ∀ w, Calls Tryz.prog 52 #[.string (str n)] w fun e w' => e = .returned (.int .i64 (m : Int)) ∧ w' = w from fun w => (Name_any (str n) hn w).mono (by
    rintro e w' ⟨k, rfl, hk, rfl⟩
    rw [name_one hk (nameL_is n), ← hm]
    exact ⟨rfl, rfl⟩))
  by_cases h0 : n = []
  · have hs0 : ((str n).toList == []) = true := by rw [empB_str, h0]; rfl
    have HV := Lib.hid (show nmB n = false by rw [h0]; rfl)
    clear h0 hm
    go_enter Tryz.func33, Tryz.ntmps33
    go_wp2_with fail
    go_ret
    exact ⟨ret_bool HV.out.symm, rfl⟩
  · have hs0 : ((str n).toList == []) = false := by rw [empB_str]; exact decide_eq_false h0
    have hb : nmB n = decide ((m : Int) = ((str n).size : Int)) := by
      unfold nmB
      rw [hm, size_str, decide_eq_true h0, Bool.true_and]
      simp [Int.ofNat_inj]
    rw [hb]
    have hsI : ((str n).size : Int) ≤ 1000000 := by have := hn; rw [size_str]; omega
    generalize str n = s at HC hsI hs0 ⊢
    clear hb hm h0
    cases h2 : decide ((m : Int) = (s.size : Int)) with
    | false =>
      have h3 : ¬ ((m : Int) = (s.size : Int)) := by simpa using h2
      have h4 : ((m : Int) == (s.size : Int)) = false := by simpa using h3
      go_enter Tryz.func33, Tryz.ntmps33
      go_wp2_with fail
      refine (HC.out _).mono ?_
      rintro e w1 ⟨rfl, rfl⟩
      go_wp2_with fail
      go_ret
      exact ⟨rfl, rfl⟩
    | true =>
      have h3 : (m : Int) = (s.size : Int) := by simpa using h2
      have h4 : ((m : Int) == (s.size : Int)) = true := by simpa using h3
      go_enter Tryz.func33, Tryz.ntmps33
      go_wp2_with fail
      refine (HC.out _).mono ?_
      rintro e w1 ⟨rfl, rfl⟩
      go_wp2_with fail
      go_ret
      exact ⟨rfl, rfl⟩
def mtB (x : Tr) : Bool := decide (x.ats = []) && decide (x.ks = []) && decide (x.t ≠ []) && plB x.t
theorem len0 {α : Type} (l : List α) : ((l.length : Int) == 0) = decide (l = []) := by
  cases l with
  | nil => rfl
  | cons a l => rw [decide_eq_false (by simp), beq_eq_false_iff_ne]; simp only [List.length_cons]; omega
set_option maxRecDepth 100000 in
set_option maxHeartbeats 2000000 in
theorem mayText_any (x : Tr) (va vk : Value) (w : World) (hx : NdV w (allF w) x va vk) (ht : x.t.length ≤ 1000000) :
    Calls Tryz.prog 32 #[nodeV x va vk] w fun e w' => e = .returned (.bool (mtB x)) ∧ Below w.heap.size w w' := by
  obtain ⟨c1, c2, c3, c4, rfl, rfl⟩ := node_cells hx
  unfold nodeV
  obtain ⟨w1, hw1⟩ : ∃ w1, w1 = w.alloc (.cells #[.string (str x.n), .slice c1 x.ats.length c2, .slice c3 x.ks.length c4, .string (str x.t)] 26) := ⟨_, rfl⟩
  have hb1 : Below w.heap.size w w1 := by rw [hw1]; exact (Below.refl _ _).alloc (Nat.le_refl _) _
  have hX : w1.heap[w.heap.size]? = some (.cells #[.string (str x.n), .slice c1 x.ats.length c2, .slice c3 x.ks.length c4, .string (str x.t)] 26 (0, 0)) := by rw [hw1]; exact heap_alloc_new w _
  have x0 : w1.cell? ⟨w.heap.size, 0, none⟩ = some (.string (str x.n)) := by rw [cell_of_row w1 _ 0 _ _ (0, 0) hX]; rfl
  have x1 : w1.cell? ⟨w.heap.size, 1, none⟩ = some (.slice c1 x.ats.length c2) := by rw [cell_of_row w1 _ 1 _ _ (0, 0) hX]; rfl
  have x2 : w1.cell? ⟨w.heap.size, 2, none⟩ = some (.slice c3 x.ks.length c4) := by rw [cell_of_row w1 _ 2 _ _ (0, 0) hX]; rfl
  have x3 : w1.cell? ⟨w.heap.size, 3, none⟩ = some (.string (str x.t)) := by rw [cell_of_row w1 _ 3 _ _ (0, 0) hX]; rfl
  have HB1 := Lib.hid hb1
  have HW1 := Lib.hid hw1
  have HIT := Lib.hid (fun w => mIsText_any x.t ht w)
  obtain ⟨R, hR⟩ : ∃ R, R = mtB x := ⟨_, rfl⟩
  rw [← hR]
  unfold mtB at hR
  have q1 := len0 x.ats
  have q2 := len0 x.ks
  have q3 := empB_str x.t
  generalize hA : decide (x.ats = []) = A at q1 hR
  generalize hK : decide (x.ks = []) = K at q2 hR
  rw [show decide (x.t ≠ []) = !decide (x.t = []) by simp] at hR
  generalize hT : decide (x.t = []) = T at q3 hR
  generalize plB x.t = B at HIT hR
  clear hA hK hT hb1 hw1 hX ht hx
  have HR := Lib.hid hR
  clear hR
  have q4 : ((str x.t).toList != []) = !T := by unfold bne; rw [q3]
  go_enter Tryz.func32, Tryz.ntmps32
  go_upto_region 1 with fail
  rw [← HW1.out]
  cases A
  · go_wp2_with fail
    go_ret
    exact ⟨ret_bool (by rw [HR.out]; rfl), HB1.out⟩
  cases K
  · go_wp2_with fail
    go_ret
    exact ⟨ret_bool (by rw [HR.out]; rfl), HB1.out⟩
  cases T
  case true =>
    go_wp2_with fail
    go_ret
    exact ⟨ret_bool (by rw [HR.out]; rfl), HB1.out⟩
  case false =>
    go_wp2_with (go_at_call 51; refine (HIT.out _).mono ?_; rintro e w2 ⟨rfl, hw2⟩)
    obtain rfl : w1 = w2 := hw2.symm
    clear x0 x1 x2 x3
    go_wp2
    go_ret
    exact ⟨ret_bool (by rw [HR.out]; rfl), HB1.out⟩
/-! a set of texts -/
theorem sKeyed3 : Maps.Keyed Tryz.prog 9 := Maps.string_keyed Tryz.underlying9
theorem zero_unit3 (w : World) : (zeroValue 94).run Tryz.prog w = .ok (.agg #[]) w := by kernel_rfl
theorem run_makeMap3 (n : Int) (w : World) : (Instr.makeMap 93 (some (.int .i64 n))).run Tryz.prog w = .ok (.map (some w.heap.size)) (w.alloc (.map #[] 0)) := by
  unfold Instr.makeMap
  simp only [Sem.run_bind, run_underlying Tryz.underlying93, Result.andThen_ok]
  rfl
/-- block b is a set of at most n texts, those of l -/
def TxSet (w : World) (b n : Nat) (l : List (List UInt8)) : Prop :=
  ∃ D : DataW Unit, w.ownsMap Tryz.prog 9 unitElem b n D ∧ ∀ k : List UInt8, k.length ≤ 1000000 → Maps.has D (.string k) = l.any (fun q => k == q)
section
variable {w w' : World} {b n : Nat} {l : List (List UInt8)} {k : List UInt8}
theorem TxSet.made (w : World) : TxSet (w.alloc (.map #[] 0)) w.heap.size 0 [] := ⟨_, World.ownsMap_made _ _ _ _, fun k _ => rfl⟩
theorem TxSet.below (h : TxSet w b n l) (hb : Below w.heap.size w w') : TxSet w' b n l := by
  obtain ⟨D, h1, h2⟩ := h
  exact ⟨D, h1.kept (⟨hb.os, hb.tape, hb.output, hb.size, fun k hk _ => hb.block k hk⟩ : w.grownBy w' none) (by simp), h2⟩
theorem TxSet.lt (h : TxSet w b n l) : b < w.heap.size := by
  obtain ⟨D, h1, h2⟩ := h
  exact h1.lt
theorem TxSet.look (h : TxSet w b n l) (hk : k.length ≤ 1000000) : (Instr.lookup 93 (.map (some b)) (.string (str k)) true).run Tryz.prog w = .ok (.tuple #[.agg #[], .bool (l.any fun q => k == q)]) w := by
  obtain ⟨D, h1, h2⟩ := h
  obtain ⟨v, ps, hr, hv⟩ := h1.look_ok sKeyed3 Tryz.underlying93 (zero_unit3 _) unitElem_mk (Go.WideMaps.keyOf_string_mk Tryz.underlying9 (s := str k) (by rw [size_str]; unfold maxLen; omega))
  rw [show (Lit.string (str k).data.toList) = .string k by rw [toList_str], h2 k hk] at hr
  obtain ⟨rfl, -⟩ := unitElem_inv hv
  exact hr
theorem TxSet.update (h : TxSet w b n l) (hk : k.length ≤ 1000000) (hn : n ≤ 1000000) :
    ∃ w', (Instr.mapUpdate 93 (.map (some b)) (.string (str k)) (.agg #[])).run Tryz.prog w = .ok () w' ∧ TxSet w' b (n + 1) (l ++ [k]) ∧ w.grownBy w' (some b) := by
  obtain ⟨D, h2, h3⟩ := h
  have hkey := Go.WideMaps.keyOf_string_mk (P := Tryz.prog) (s := str k) Tryz.underlying9 (by rw [size_str]; unfold maxLen; omega)
  rw [show (Lit.string (str k).data.toList) = .string k by rw [toList_str]] at hkey
  obtain ⟨w', a1, a2, a3⟩ := h2.update sKeyed3 Tryz.underlying93 (by unfold maxLen; omega) hkey unitElem_mk
  refine ⟨w', a1, ⟨_, a2, fun q hq => ?_⟩, a3⟩
  have hkl : WideAt.IsKeyLit (.string k) := sKeyed3.key hkey
  rw [List.any_append]
  by_cases e : q = k
  · subst e
    rw [Maps.has_put_same h2.isMap hkl]; simp
  · have hne : (Lit.string q) ≠ .string k := fun h => e (by cases h; rfl)
    rw [Maps.has_put_other hne, h3 q hq]
    simp [e]
end
set_option maxRecDepth 100000 in
set_option maxHeartbeats 4000000 in
theorem mayAttrs_any (va : Value) (l : List At2) (w : World) (hr : RdAs w va l) (hl : l.length ≤ 100000) (hb : ∀ p ∈ l, p.1.length ≤ 100000 ∧ p.2.length ≤ 100000) :
    Calls Tryz.prog 34 #[va] w fun e w' => e = .returned (.bool (atsB [] l)) ∧ Below w.heap.size w w' := by
  obtain ⟨a, c, rfl⟩ := RdSl.shape hr
  have hlI : (l.length : Int) ≤ 100000 := by omega
  have hmm := fun (n : Int) (w : World) => run_makeMap3 n w
  have HR := Lib.hid hr
  have HBD := Lib.hid hb
  clear hr hb
  go_enter Tryz.func34, Tryz.ntmps34
  go_upto_region 2 with fail
  have hs0 := TxSet.made w
  have hbm : Below w.heap.size w (w.alloc (.map #[] 0)) := (Below.refl _ _).alloc (Nat.le_refl _) _
  generalize w.alloc (.map #[] 0) = w1 at hs0 hbm ⊢
  generalize hMB : w.heap.size = MB at hs0 ⊢
  have HMB := Lib.hid hMB
  have HS0 := Lib.hid hs0
  have HBM := Lib.hid hbm
  clear hMB hs0 hbm hmm
  go_wp2_with fail
  go_loopw [13] (fun i wr => ∃ k : Nat, k ≤ l.length ∧ i = .int .i64 k ∧ TxSet wr MB k ((l.take k).map (·.1)) ∧ Below w.heap.size w wr ∧ atsB [] l = atsB (l.take k) (l.drop k)) (fun i _ => l.length - (intOf i).toNat)
  case atStart => exact ⟨0, by omega, rfl, HS0.out, HBM.out, rfl⟩
  case round =>
    obtain ⟨k, hk, rfl, hts, hbr, hv⟩ := hrel
    have HTS := Lib.hid hts
    have HBR := Lib.hid hbr
    clear hts hbr
    by_cases hlt : k < l.length
    · obtain ⟨p, hp⟩ : ∃ p, l[k]? = some p := ⟨_, List.getElem?_eq_getElem hlt⟩
      rw [atsB_at hp] at hv
      obtain ⟨hp1, hp2⟩ := HBD.out p (List.mem_of_getElem? hp)
      obtain ⟨b, e1, p0, p1⟩ := RdSl.elem (HR.out.below HBR.out (Nat.le_refl _)) hp
      subst e1
      have HTK := Lib.hid (show (l.take (k + 1)).map (·.1) = (l.take k).map (·.1) ++ [p.1] by rw [take_snoc _ k p hp, List.map_append]; rfl)
      have hany : ((l.take k).any fun q => p.1 == q.1) = ((l.take k).map (·.1)).any fun q => p.1 == q := by rw [List.any_map]; rfl
      rw [hany] at hv
      generalize (l.take k).map (·.1) = S at HTS HTK hv
      obtain ⟨wb, hwb⟩ : ∃ wb, wb = wr.alloc (.cells #[.string (str p.1), .string (str p.2)] 68) := ⟨_, rfl⟩
      have hbb : Below wr.heap.size wr wb := by rw [hwb]; exact (Below.refl _ _).alloc (Nat.le_refl _) _
      have hrow : wb.heap[wr.heap.size]? = some (.cells #[.string (str p.1), .string (str p.2)] 68 (0, 0)) := by rw [hwb]; exact heap_alloc_new wr _
      have HBB := Lib.hid (HBR.out.trans (hbb.mono HBR.out.size))
      have HTB := Lib.hid (HTS.out.below hbb)
      have HIN := Lib.hid (fun w => mIsName_any p.1 (by omega) w)
      have HIT := Lib.hid (fun w => mIsText_any p.2 (by omega) w)
      have HWB := Lib.hid hwb
      have HROW := Lib.hid hrow
      have hkI : (k : Int) < (l.length : Int) := by omega
      have HP1 := Lib.hid (show p.1.length ≤ 1000000 by omega)
      clear hwb hbb hrow hp hany hp1 hp2
      go_upto_region 5 with fail
      rw [← HWB.out]
      generalize wr.heap.size = KB at HROW ⊢
      clear p0 p1
      have b0 : wb.cell? ⟨KB, 0, none⟩ = some (.string (str p.1)) := by rw [cell_of_row wb _ 0 _ _ (0, 0) HROW.out]; rfl
      have b1 : wb.cell? ⟨KB, 1, none⟩ = some (.string (str p.2)) := by rw [cell_of_row wb _ 1 _ _ (0, 0) HROW.out]; rfl
      have hlook := HTB.out.look HP1.out
      obtain ⟨wc, hwc⟩ : ∃ wc, wc = wb.alloc (.cells #[] 94) := ⟨_, rfl⟩
      have hbc : Below wb.heap.size wb wc := by rw [hwc]; exact (Below.refl _ _).alloc (Nat.le_refl _) _
      have HBC := Lib.hid (HBB.out.trans (hbc.mono HBB.out.size))
      have HTC := Lib.hid (HTB.out.below hbc)
      have HWC := Lib.hid hwc
      have HRC := Lib.hid ((hbc.block KB (Array.getElem?_eq_some_iff.1 HROW.out).1).trans HROW.out)
      clear hwc hbc
      generalize hA : (S.any fun q => p.1 == q) = A at hlook hv
      generalize nmB p.1 = NB at HIN hv
      generalize plB p.2 = PB at HIT hv
      clear hA
      have HV := Lib.hid hv
      clear hv
      go_upto_region 6 with fail
      rw [← HWC.out]
      clear hlook b0 b1
      have b0 : wc.cell? ⟨KB, 0, none⟩ = some (.string (str p.1)) := by rw [cell_of_row wc _ 0 _ _ (0, 0) HRC.out]; rfl
      have b1 : wc.cell? ⟨KB, 1, none⟩ = some (.string (str p.2)) := by rw [cell_of_row wc _ 1 _ _ (0, 0) HRC.out]; rfl
      cases A
      case true =>
        go_wp2_with fail
        go_ret
        exact ⟨ret_bool (by rw [HV.out]; simp), HBC.out⟩
      cases NB
      case false =>
        go_wp2_with (go_at_call 33; refine (HIN.out _).mono ?_; rintro e w3 ⟨rfl, hw3⟩; obtain rfl : wc = w3 := hw3.symm)
        go_ret
        exact ⟨ret_bool (by rw [HV.out]; simp), HBC.out⟩
      cases PB
      case false =>
        go_wp2_with (first
          | (go_at_call 33; refine (HIN.out _).mono ?_; rintro e w3 ⟨rfl, hw3⟩; obtain rfl : wc = w3 := hw3.symm)
          | (go_at_call 51; refine (HIT.out _).mono ?_; rintro e w4 ⟨rfl, hw4⟩; obtain rfl : wc = w4 := hw4.symm))
        go_ret
        exact ⟨ret_bool (by rw [HV.out]; simp), HBC.out⟩
      obtain ⟨w5, hrun, hts5, hg5⟩ := HTC.out.update (k := p.1) HP1.out (by omega)
      have HTS5 := Lib.hid hts5
      have HB5 := Lib.hid (HBC.out.grown hg5 HBC.out.size (fun q e => by cases e; have := HMB.out; omega))
      have HV2 := Lib.hid (show atsB [] l = atsB (l.take (k + 1)) (l.drop (k + 1)) by rw [HV.out]; rfl)
      clear hts5 hg5
      go_wp2_with (first
        | (go_at_call 33; refine (HIN.out _).mono ?_; rintro e w3 ⟨rfl, hw3⟩; obtain rfl : wc = w3 := hw3.symm)
        | (go_at_call 51; refine (HIT.out _).mono ?_; rintro e w4 ⟨rfl, hw4⟩; obtain rfl : wc = w4 := hw4.symm))
      go_roundw
      case rel => exact ⟨k + 1, by omega, by go_num, by rw [HTK.out]; exact HTS5.out, HB5.out, HV2.out⟩
      case measure => simp [intOf]; omega
    · rw [List.drop_eq_nil_of_le (by omega)] at hv
      have HV := Lib.hid hv
      have hle : (l.length : Int) ≤ k := by omega
      clear hv
      go_wp2_with fail
      go_ret
      exact ⟨ret_bool HV.out.symm, HBR.out⟩
end
/-! MayC3 -/
section
open Go.RowKit

mutual
/-- attributes are not too many -/
def Tr.tc : Tr → Prop
  | .mk n ats ks t => ats.length ≤ 100000 ∧ Tr.tcs ks
def Tr.tcs : List Tr → Prop
  | [] => True
  | k :: ks => k.tc ∧ Tr.tcs ks
end
theorem tcs_mem : ∀ {l : List Tr} {k : Tr}, Tr.tcs l → k ∈ l → k.tc
  | [], k, _, h => by simp at h
  | x :: l, k, hs, h => by
    rcases List.mem_cons.1 h with rfl | h
    · exact hs.1
    · exact tcs_mem hs.2 h
mutual
theorem sm_tc : ∀ x : Tr, x.sm → x.tc
  | .mk n ats ks t, h => ⟨by have := h.2.1; omega, sms_tcs ks h.2.2.2.2.2⟩
theorem sms_tcs : ∀ l : List Tr, Tr.sms l → Tr.tcs l
  | [], _ => trivial
  | k :: l, h => ⟨sm_tc k h.1, sms_tcs l h.2⟩
end
/-- may this stand at depth d? -/
def kB (d : Nat) (x : Tr) : Bool := if x.n = [] then decide (1 < d) && mtB x else x.rightB && decide (d + x.dep ≤ 65)
def mayR (d : Nat) (v : Int) (x : Tr) : Bool := decide ((x.size : Int) ≤ v) && kB d x
/-- what is left of the kids -/
structure KI (x : Tr) (d : Nat) (v : Int) (k : Nat) : Prop where
  sz : (Tr.sizes (x.ks.take k) : Int) ≤ v - 1
  ks : Tr.ksB false x.ks = Tr.ksB (preT x.ks k) (x.ks.drop k)
  dp : d + 1 + Tr.deps (x.ks.take k) ≤ 65
theorem KI.start {x : Tr} {d : Nat} {v : Int} (hv : 1 ≤ v) (hd : d ≤ 64) : KI x d v 0 := ⟨by simp [Tr.sizes]; omega, rfl, by simp [Tr.deps]; omega⟩
theorem mt_eq (y : Tr) (p : Bool) : (decide (y.ats = []) && decide (y.ks = []) && decide (y.t ≠ []) && plB y.t && !p) = (mtB y && !p) := rfl
theorem kB_el {x : Tr} {d : Nat} (hn : x.n ≠ []) : kB d x = (x.rightB && decide (d + x.dep ≤ 65)) := if_neg hn
theorem right_ks {x : Tr} (h : Tr.ksB false x.ks = false) : x.rightB = false := by
  obtain ⟨n, ats, ks, t⟩ := x
  rw [Tr.rightB]
  rw [show Tr.ksB false ks = false from h, Bool.and_false]
theorem KI.twice {x y : Tr} {d k : Nat} {v : Int} (h : KI x d v k) (hn : x.n ≠ []) (hy : x.ks[k]? = some y) (hyn : y.n = []) (hp : preT x.ks k = true) : mayR d v x = false := by
  have h1 := h.ks
  rw [ksB_at hy, if_pos hyn, hp] at h1
  simp only [Bool.not_true, Bool.and_false, Bool.false_and] at h1
  unfold mayR
  rw [kB_el hn, right_ks h1, Bool.false_and, Bool.and_false]
theorem KI.no {x y : Tr} {d k : Nat} {v : Int} (h : KI x d v k) (hn : x.n ≠ []) (hd : 1 ≤ d) (hy : x.ks[k]? = some y) (hb : mayR (d + 1) (v - 1 - (Tr.sizes (x.ks.take k) : Int)) y = false) : mayR d v x = false := by
  have h1 := h.ks
  rw [ksB_at hy] at h1
  unfold mayR at hb ⊢
  have hsz : x.size = 1 + Tr.sizes x.ks := x.size_ks
  have hle := sizes_take x.ks (k + 1)
  rw [sizes_snoc x.ks k y hy] at hle
  rw [Bool.and_eq_false_iff] at hb
  rcases hb with hb | hb
  · have := of_decide_eq_false hb
    rw [decide_eq_false (by omega), Bool.false_and]
  · unfold kB at hb
    rw [kB_el hn]
    by_cases hyn : y.n = []
    · rw [if_pos hyn, decide_eq_true (by omega), Bool.true_and] at hb
      rw [if_pos hyn, mt_eq, hb] at h1
      simp only [Bool.false_and] at h1
      rw [right_ks h1, Bool.false_and, Bool.and_false]
    · rw [if_neg hyn, Bool.and_eq_false_iff] at hb
      rw [if_neg hyn] at h1
      rcases hb with hb | hb
      · rw [hb, Bool.false_and] at h1
        rw [right_ks h1, Bool.false_and, Bool.and_false]
      · have hdp := of_decide_eq_false hb
        have hdx : x.dep = Tr.deps x.ks + 1 := x.dep_ks
        have hdl := deps_app (x.ks.take (k + 1)) (x.ks.drop (k + 1))
        rw [List.take_append_drop, deps_snoc x.ks k y hy, if_neg hyn] at hdl
        rw [decide_eq_false (show ¬ d + x.dep ≤ 65 by omega), Bool.and_false, Bool.and_false]
theorem KI.yes {x y : Tr} {d k : Nat} {v : Int} (h : KI x d v k) (hd : 1 ≤ d) (hy : x.ks[k]? = some y) (hp : y.n = [] → preT x.ks k = false) (hb : mayR (d + 1) (v - 1 - (Tr.sizes (x.ks.take k) : Int)) y = true) :
    KI x d v (k + 1) ∧ v - 1 - (Tr.sizes (x.ks.take k) : Int) - (y.size : Int) = v - 1 - (Tr.sizes (x.ks.take (k + 1)) : Int) := by
  unfold mayR at hb
  rw [Bool.and_eq_true] at hb
  obtain ⟨hb1, hb2⟩ := hb
  have hs := of_decide_eq_true hb1
  have hsn := sizes_snoc x.ks k y hy
  have h1 := h.ks
  rw [ksB_at hy] at h1
  have h3 := h.dp
  have hdn := deps_snoc x.ks k y hy
  unfold kB at hb2
  refine ⟨⟨by rw [hsn]; omega, ?_, ?_⟩, by rw [hsn]; omega⟩
  · by_cases hyn : y.n = []
    · rw [if_pos hyn, Bool.and_eq_true] at hb2
      rw [if_pos hyn, mt_eq, hb2.2, hp hyn] at h1
      simpa using h1
    · rw [if_neg hyn, Bool.and_eq_true] at hb2
      rw [if_neg hyn, hb2.1, Bool.true_and] at h1
      exact h1
  · rw [hdn]
    by_cases hyn : y.n = []
    · rw [if_pos hyn]; exact h3
    · rw [if_neg hyn, Bool.and_eq_true] at hb2
      have := of_decide_eq_true hb2.2
      rw [if_neg hyn]; omega
theorem KI.done {x : Tr} {d k : Nat} {v : Int} (h : KI x d v k) (hn : x.n ≠ []) (hk : x.ks.length ≤ k) (h1 : nmB x.n = true) (h2 : x.t = []) (h3 : atsB [] x.ats = true) : mayR d v x = true ∧ v - 1 - (Tr.sizes (x.ks.take k) : Int) = v - (x.size : Int) := by
  have hsz : x.size = 1 + Tr.sizes x.ks := x.size_ks
  have hdx : x.dep = Tr.deps x.ks + 1 := x.dep_ks
  have e1 := h.sz
  have e2 := h.ks
  have e3 := h.dp
  rw [List.take_of_length_le hk] at e1 e3
  rw [List.drop_eq_nil_of_le hk] at e2
  have hr : x.rightB = true := by
    obtain ⟨n, ats, ks, t⟩ := x
    rw [Tr.rightB]
    rw [show nmB n = true from h1, show atsB [] ats = true from h3, show Tr.ksB false ks = true from e2]
    rw [show decide (t = []) = true from decide_eq_true h2]
    rfl
  refine ⟨?_, by rw [List.take_of_length_le hk]; omega⟩
  unfold mayR
  rw [kB_el hn, hr, decide_eq_true (by omega), decide_eq_true (show d + x.dep ≤ 65 by omega)]
  rfl
theorem may_low {x : Tr} {d : Nat} {v : Int} (h : v < 1) : mayR d v x = false := by
  unfold mayR
  rw [decide_eq_false (by have := x.size_pos; omega), Bool.false_and]
theorem may_parts {x : Tr} {d : Nat} {v : Int} (hn : x.n ≠ []) (h : 64 < d ∨ nmB x.n = false ∨ x.t ≠ [] ∨ atsB [] x.ats = false) : mayR d v x = false := by
  unfold mayR
  rw [kB_el hn]
  have hdx : x.dep = Tr.deps x.ks + 1 := x.dep_ks
  have hr : nmB x.n = false ∨ x.t ≠ [] ∨ atsB [] x.ats = false → x.rightB = false := fun h => by
    obtain ⟨n, ats, ks, t⟩ := x
    rw [Tr.rightB]
    rcases h with h | h | h
    · rw [show nmB n = false from h]; simp
    · rw [show decide (t = []) = false from decide_eq_false h]; simp
    · rw [show atsB [] ats = false from h]; simp
  rcases h with h | h
  · rw [decide_eq_false (show ¬ d + x.dep ≤ 65 by omega), Bool.and_false, Bool.and_false]
  · rw [hr h, Bool.false_and, Bool.and_false]
theorem may_text {x : Tr} {d : Nat} {v : Int} (hn : x.n = []) (hv : 1 ≤ v) : (decide (1 < d) && mtB x) = mayR d v x ∧ (mayR d v x = true → v - 1 = v - (x.size : Int)) := by
  have hs : mtB x = true → x.size = 1 := fun h => by
    unfold mtB at h
    simp only [Bool.and_eq_true, decide_eq_true_eq] at h
    rw [x.size_ks, h.1.1.2]; rfl
  unfold mayR kB
  rw [if_pos hn]
  cases hm : mtB x with
  | false => simp
  | true =>
    have h1 : decide ((x.size : Int) ≤ v) = true := decide_eq_true (by rw [hs hm]; omega)
    rw [h1, hs hm]
    simp
/-! worlds -/
section
variable {w w' w2 : World} {L : Nat}
theorem grL_below (hb : Below w.heap.size w w') : w.grownBy w' (some L) := ⟨hb.os, hb.tape, hb.output, hb.size, fun k hk _ => hb.block k hk⟩
theorem grL_trans (h : w.grownBy w' (some L)) (h2 : w'.grownBy w2 (some L)) : w.grownBy w2 (some L) :=
  ⟨h2.os.trans h.os, h2.tape.trans h.tape, h2.output.trans h.output, Nat.le_trans h.size h2.size, fun k hk hne => (h2.block k (Nat.lt_of_lt_of_le hk h.size) hne).trans (h.block k hk hne)⟩
theorem grL_set (v : Value) : w.grownBy (w.setCell ⟨L, 0, none⟩ v) (some L) := ⟨rfl, rfl, rfl, by simp, fun k _ hk => heap_setCell_other w ⟨L, 0, none⟩ k v (fun e => hk (by simp [e]))⟩
theorem grL_low {w0 : World} (h0 : Below w0.heap.size w0 w) (hL : w0.heap.size ≤ L) (h : w.grownBy w' (some L)) : Below w0.heap.size w0 w' := h0.grown h h0.size (fun q e => by cases e; exact hL)
end
def MayQ (d L : Nat) (v : Int) (x : Tr) (w : World) (e : Ending) (w' : World) : Prop :=
  ∃ v' : Int, e = .returned (.bool (mayR d v x)) ∧ w.grownBy w' (some L) ∧ w'.heap[L]? = some (.cells #[.int .i64 v'] 3 (0, 0)) ∧ (mayR d v x = true → v' = v - (x.size : Int))
def MayC (x : Tr) : Prop :=
  ∀ (w0 : World) (L V d : Nat) (v : Int) (va vk : Value) (w : World), NdV w0 (allF w0) x va vk → Below w0.heap.size w0 w → w0.heap.size ≤ L → L < V → w.heap[L]? = some (.cells #[.int .i64 v] 3 (0, 0)) →
    w.cell? ⟨V, 0, none⟩ = some (.func (.func 31) #[] #[.pointer (some ⟨L, 0, none⟩), .pointer (some ⟨V, 0, none⟩)]) → 0 ≤ v → v ≤ 4096 → 1 ≤ d → d ≤ 65 → x.tb → x.tc →
    Calls Tryz.prog 31 #[nodeV x va vk, .int .i64 (d : Int), .pointer (some ⟨L, 0, none⟩), .pointer (some ⟨V, 0, none⟩)] w (MayQ d L v x w)
set_option maxRecDepth 100000 in
set_option maxHeartbeats 4000000 in
theorem mayc_step (x : Tr) (hS : ∀ k ∈ x.ks, MayC k) : MayC x := by
  intro w0 L V d v va vk w hx hb0 hL0 hLV hL hV hv0 hv1 hd1 hd2 htb htc
  obtain ⟨c1, c2, c3, c4, rfl, rfl⟩ := node_cells hx
  unfold nodeV
  obtain ⟨w1, hw1⟩ : ∃ w1, w1 = w.alloc (.cells #[.string (str x.n), .slice c1 x.ats.length c2, .slice c3 x.ks.length c4, .string (str x.t)] 26) := ⟨_, rfl⟩
  have hb1 : Below w.heap.size w w1 := by rw [hw1]; exact (Below.refl _ _).alloc (Nat.le_refl _) _
  have hX1 : w1.heap[w.heap.size]? = some (.cells #[.string (str x.n), .slice c1 x.ats.length c2, .slice c3 x.ks.length c4, .string (str x.t)] 26 (0, 0)) := by rw [hw1]; exact heap_alloc_new w _
  have hVs : V < w.heap.size := World.block_lt_of_cell? w _ hV
  have hL1 : w1.heap[L]? = some (.cells #[.int .i64 v] 3 (0, 0)) := (hb1.block L (by omega)).trans hL
  obtain ⟨w2, hw2⟩ : ∃ w2, w2 = w1.setCell ⟨L, 0, none⟩ (.int .i64 (v - 1)) := ⟨_, rfl⟩
  have hG2 : w.grownBy w2 (some L) := by rw [hw2]; exact grL_trans (grL_below hb1) (grL_set _)
  have hL2 : w2.heap[L]? = some (.cells #[.int .i64 (v - 1)] 3 (0, 0)) := by rw [hw2]; exact heap_setCell_same w1 L 0 _ _ (.int .i64 (v - 1)) hL1
  have hX2 : w2.heap[w.heap.size]? = some (.cells #[.string (str x.n), .slice c1 x.ats.length c2, .slice c3 x.ks.length c4, .string (str x.t)] 26 (0, 0)) := by
    rw [hw2, heap_setCell_other w1 ⟨L, 0, none⟩ w.heap.size _ (fun e => by simp only at e; omega)]; exact hX1
  have hV2 : w2.cell? ⟨V, 0, none⟩ = some (.func (.func 31) #[] #[.pointer (some ⟨L, 0, none⟩), .pointer (some ⟨V, 0, none⟩)]) := (World.cell?_of_block (a := ⟨V, 0, none⟩) (hG2.block V hVs (fun e => by cases e; omega))).trans hV
  have l1 : w1.cell? ⟨L, 0, none⟩ = some (.int .i64 v) := by rw [cell_of_row w1 _ 0 _ _ (0, 0) hL1]; rfl
  have f1 : w1.frozen? ⟨L, 0, none⟩ = false := frozen_of_row w1 _ 0 _ _ hL1
  have hwr : IntKind.i64.wrap (v - 1) = v - 1 := by rw [IntWalk.i64_in _ (by omega)]
  have htt : x.n.length ≤ 100000 ∧ x.t.length ≤ 100000 ∧ (∀ p ∈ x.ats, p.1.length ≤ 100000 ∧ p.2.length ≤ 100000) ∧ Tr.tbs x.ks := by cases x; exact htb
  have htc2 : x.ats.length ≤ 100000 ∧ Tr.tcs x.ks := by cases x; exact htc
  have HG2 := Lib.hid hG2
  have HL2 := Lib.hid hL2
  have HX2 := Lib.hid hX2
  have HV2 := Lib.hid hV2
  have HW1 := Lib.hid hw1
  have HW2 := Lib.hid hw2
  have HTB := Lib.hid htt
  have HTC := Lib.hid htc2
  have HS := Lib.hid hS
  have HX := Lib.hid hx
  have HB0 := Lib.hid hb0
  have HL0 := Lib.hid hL0
  have HLV := Lib.hid hLV
  have HXL := Lib.hid (show w.heap.size ≠ L ∧ V < w.heap.size by omega)
  have HB02 := Lib.hid (grL_low hb0 hL0 hG2)
  have HXC := Lib.hid (show ∀ w3, w2.grownBy w3 (some L) → Sr3 w.heap.size x c1 c2 c3 c4 w3 from fun w3 hg => by
    have h2 := (hg.block w.heap.size (Array.getElem?_eq_some_iff.1 hX2).1 (fun e => by cases e; omega)).trans hX2
    exact ⟨by rw [cell_of_row w3 _ 0 _ _ (0, 0) h2]; rfl, by rw [cell_of_row w3 _ 1 _ _ (0, 0) h2]; rfl, by rw [cell_of_row w3 _ 2 _ _ (0, 0) h2]; rfl, by rw [cell_of_row w3 _ 3 _ _ (0, 0) h2]; rfl⟩)
  have HVC := Lib.hid (show ∀ w3, w2.grownBy w3 (some L) → w3.cell? ⟨V, 0, none⟩ = some (.func (.func 31) #[] #[.pointer (some ⟨L, 0, none⟩), .pointer (some ⟨V, 0, none⟩)]) from fun w3 hg => (World.cell?_of_block (a := ⟨V, 0, none⟩) (hg.block V (World.block_lt_of_cell? w2 _ hV2) (fun e => by cases e; omega))).trans hV2)
  clear hx hb0 hL0 hLV hL hV htb htc hb1 hX1 hVs hL1 hw1 hw2 hG2 hL2 hX2 hV2 htt htc2 hS
  go_enter Tryz.func31, Tryz.ntmps31
  go_upto_region 1 with fail
  rw [← HW1.out]
  go_upto_region 2 with fail
  rw [← HW2.out]
  clear l1 f1 hwr
  have l2 : w2.cell? ⟨L, 0, none⟩ = some (.int .i64 (v - 1)) := by rw [cell_of_row w2 _ 0 _ _ (0, 0) HL2.out]; rfl
  by_cases hv : v < 1
  · have hlt : v - 1 < 0 := by omega
    have HM := Lib.hid (may_low (x := x) (d := d) hv)
    clear hv
    go_wp2_with fail
    go_ret
    exact ⟨v - 1, ret_bool HM.out.symm, HG2.out, HL2.out, fun h => by rw [HM.out] at h; cases h⟩
  have hge : ¬ (v - 1 < 0) := by omega
  have hv2 : 1 ≤ v := by omega
  have HVV := Lib.hid hv2
  obtain ⟨x0, x1, x2, x3⟩ := HXC.out w2 (grL_below (Below.refl _ _))
  by_cases hn : x.n = []
  · have hs0 : ((str x.n).toList == []) = true := by rw [empB_str, hn]; rfl
    obtain ⟨g1, g2⟩ := may_text (d := d) hn hv2
    have HM1 := Lib.hid g1
    have HM2 := Lib.hid g2
    have HMT := Lib.hid (mayText_any x (.slice c1 x.ats.length c2) (.slice c3 x.ks.length c4) w2 (HX.out.onto HB02.out (Nat.le_refl _)) (by have := HTB.out.2.1; omega))
    unfold nodeV at HMT
    clear g1 g2 hn hv hv2
    by_cases h1d : 1 < d
    · have h1I : 1 < (d : Int) := by omega
      have HM3 := Lib.hid (show mtB x = mayR d v x by rw [← HM1.out, decide_eq_true h1d, Bool.true_and])
      clear h1d
      go_wp2_with (go_at_call 32; refine HMT.out.mono ?_; rintro e w3 ⟨rfl, hb3⟩)
      go_ret
      exact ⟨v - 1, ret_bool HM3.out, grL_trans HG2.out (grL_below hb3), (hb3.block L (Array.getElem?_eq_some_iff.1 HL2.out).1).trans HL2.out, HM2.out⟩
    · have h1I : ¬ 1 < (d : Int) := by omega
      have HM3 := Lib.hid (show mayR d v x = false by rw [← HM1.out, decide_eq_false h1d, Bool.false_and])
      clear h1d
      go_wp2_with fail
      go_ret
      exact ⟨v - 1, ret_bool HM3.out.symm, HG2.out, HL2.out, HM2.out⟩
  have hs0 : ((str x.n).toList == []) = false := by rw [empB_str]; exact decide_eq_false hn
  have HNN := Lib.hid hn
  clear hn hv hv2
  by_cases hd64 : 64 < d
  · have hdI : 64 < (d : Int) := by omega
    have HM := Lib.hid (may_parts (d := d) (v := v) HNN.out (.inl hd64))
    clear hd64
    go_wp2_with fail
    go_ret
    exact ⟨v - 1, ret_bool HM.out.symm, HG2.out, HL2.out, fun h => by rw [HM.out] at h; cases h⟩
  have hdI : ¬ 64 < (d : Int) := by omega
  have HD64 := Lib.hid hd64
  clear hd64
  have HNM := Lib.hid (fun w => mIsName_any x.n (by have := HTB.out.1; omega) w)
  obtain ⟨NB, hNB⟩ : ∃ b, b = nmB x.n := ⟨_, rfl⟩
  rw [← hNB] at HNM
  have HNB := Lib.hid hNB
  clear hNB
  cases NB with
  | false =>
    have HM := Lib.hid (may_parts (d := d) (v := v) HNN.out (.inr (.inl HNB.out.symm)))
    go_wp2_with (go_at_call 33; refine (HNM.out _).mono ?_; rintro e w3 ⟨rfl, hw3⟩; obtain rfl : w2 = w3 := hw3.symm)
    go_ret
    exact ⟨v - 1, ret_bool HM.out.symm, HG2.out, HL2.out, fun h => by rw [HM.out] at h; cases h⟩
  | true =>
  by_cases ht : x.t = []
  case neg =>
    have ht0 : ((str x.t).toList != []) = true := by unfold bne; rw [empB_str, decide_eq_false ht]; rfl
    have ht1 : ((str x.t).toList == []) = false := by rw [empB_str, decide_eq_false ht]
    have HM := Lib.hid (may_parts (d := d) (v := v) HNN.out (.inr (.inr (.inl ht))))
    clear ht
    go_wp2_with (go_at_call 33; refine (HNM.out _).mono ?_; rintro e w3 ⟨rfl, hw3⟩; obtain rfl : w2 = w3 := hw3.symm)
    go_ret
    exact ⟨v - 1, ret_bool HM.out.symm, HG2.out, HL2.out, fun h => by rw [HM.out] at h; cases h⟩
  case pos =>
  have ht0 : ((str x.t).toList != []) = false := by unfold bne; rw [empB_str, decide_eq_true ht]; rfl
  have ht1 : ((str x.t).toList == []) = true := by rw [empB_str, decide_eq_true ht]
  have HTE := Lib.hid ht
  clear ht
  have HMA := Lib.hid (mayAttrs_any (.slice c1 x.ats.length c2) x.ats w2 (HX.out.onto HB02.out (Nat.le_refl _)).ats HTC.out.1 HTB.out.2.2.1)
  obtain ⟨AB, hAB⟩ : ∃ b, b = atsB [] x.ats := ⟨_, rfl⟩
  rw [← hAB] at HMA
  have HAB := Lib.hid hAB
  clear hAB
  cases AB with
  | false =>
    have HM := Lib.hid (may_parts (d := d) (v := v) HNN.out (.inr (.inr (.inr HAB.out.symm))))
    go_wp2_with (first
      | (go_at_call 33; refine (HNM.out _).mono ?_; rintro e w3 ⟨rfl, hw3⟩; obtain rfl : w2 = w3 := hw3.symm)
      | (go_at_call 34; refine HMA.out.mono ?_; rintro e w4 ⟨rfl, hb4⟩))
    go_ret
    exact ⟨v - 1, ret_bool HM.out.symm, grL_trans HG2.out (grL_below hb4), (hb4.block L (Array.getElem?_eq_some_iff.1 HL2.out).1).trans HL2.out, fun h => by rw [HM.out] at h; cases h⟩
  | true =>
  go_upto_region 8 with (first
      | (go_at_call 33; refine (HNM.out _).mono ?_; rintro e w3 ⟨rfl, hw3⟩; obtain rfl : w2 = w3 := hw3.symm)
      | (go_at_call 34; refine HMA.out.mono ?_; rintro e w4 ⟨rfl, hb4⟩))
  have HG4 := Lib.hid (show w2.grownBy w4 (some L) from grL_below hb4)
  have HL4 := Lib.hid ((hb4.block L (Array.getElem?_eq_some_iff.1 HL2.out).1).trans HL2.out)
  have HKI := Lib.hid (KI.start (x := x) HVV.out (Nat.le_of_not_lt HD64.out))
  clear hb4 x0 x1 x2 x3 l2 hs0 ht0 ht1 hge hdI
  obtain ⟨x0, x1, x2, x3⟩ := HXC.out w4 HG4.out
  have hkl := (HX.out.rd).len
  have hklI : (x.ks.length : Int) ≤ 9223372036854775807 := by omega
  go_upto_region 9 with fail
  clear x0 x1 x2 x3 hkl
  go_loopw [44] (fun i wr => ∃ k : Nat, k ≤ x.ks.length ∧ i = .int .i64 k ∧ w2.grownBy wr (some L) ∧ wr.heap[L]? = some (.cells #[.int .i64 (v - 1 - (Tr.sizes (x.ks.take k) : Int))] 3 (0, 0)) ∧ KI x d v k) (fun i _ => x.ks.length - (intOf i).toNat)
  case atStart => exact ⟨0, by omega, rfl, HG4.out, by rw [HL4.out]; simp [Tr.sizes], HKI.out⟩
  case round =>
    obtain ⟨k, hk, rfl, hgr, hlr, hki⟩ := hrel
    have HGR := Lib.hid hgr
    have HLR := Lib.hid hlr
    have HKK := Lib.hid hki
    clear hgr hlr hki
    by_cases hlt : k < x.ks.length
    · obtain ⟨y, hy⟩ : ∃ y, x.ks[k]? = some y := ⟨_, List.getElem?_eq_getElem hlt⟩
      have HBR := Lib.hid (grL_low HB02.out HL0.out HGR.out)
      obtain ⟨b3, e3, ya, yk, ⟨q0, q1, q2, q3⟩, hny⟩ := RdSl.elem (HX.out.onto HBR.out (Nat.le_refl _)).rd hy
      subst e3
      obtain ⟨d1, d2, d3, d4, rfl, rfl⟩ := node_cells hny
      obtain ⟨wb, hwb⟩ : ∃ wb, wb = wr.alloc (.cells #[.string (str y.n), .slice d1 y.ats.length d2, .slice d3 y.ks.length d4, .string (str y.t)] 26) := ⟨_, rfl⟩
      have hbb : Below wr.heap.size wr wb := by rw [hwb]; exact (Below.refl _ _).alloc (Nat.le_refl _) _
      have hrow : wb.heap[wr.heap.size]? = some (.cells #[.string (str y.n), .slice d1 y.ats.length d2, .slice d3 y.ks.length d4, .string (str y.t)] 26 (0, 0)) := by rw [hwb]; exact heap_alloc_new wr _
      have HGB := Lib.hid (grL_trans HGR.out (grL_below (L := L) hbb))
      have HLB := Lib.hid ((hbb.block L (Array.getElem?_eq_some_iff.1 HLR.out).1).trans HLR.out)
      have HBB := Lib.hid (grL_low HB02.out HL0.out HGB.out)
      have HY := Lib.hid hy
      have HNY := Lib.hid (show NdV w0 (allF w0) y (.slice d1 y.ats.length d2) (.slice d3 y.ks.length d4) by
        obtain ⟨b4, e4, ya4, yk4, ⟨z0, z1, z2, z3⟩, hz⟩ := RdSl.elem (HX.out).rd hy
        cases e4
        have k1 := (HBR.out.cell (World.block_lt_of_cell? w0 _ z1)).trans z1
        have k2 := (HBR.out.cell (World.block_lt_of_cell? w0 _ z2)).trans z2
        rw [q1] at k1
        rw [q2] at k2
        cases k1
        cases k2
        exact hz)
      have hvk0 : 0 ≤ v - 1 - (Tr.sizes (x.ks.take k) : Int) := by have := HKK.out.sz; omega
      have HCL := Lib.hid (HS.out y (List.mem_of_getElem? hy) w0 L V (d + 1) (v - 1 - (Tr.sizes (x.ks.take k) : Int)) _ _ wb HNY.out HBB.out HL0.out HLV.out HLB.out (HVC.out _ HGB.out) hvk0 (by omega) (by omega) (by have := HKK.out.dp; omega) (tbs_mem HTB.out.2.2.2 (List.mem_of_getElem? hy)) (tcs_mem HTC.out.2 (List.mem_of_getElem? hy)))
      unfold nodeV at HCL
      rw [show (((d + 1 : Nat)) : Int) = (d : Int) + 1 by omega] at HCL
      obtain ⟨B, hB⟩ : ∃ B, B = mayR (d + 1) (v - 1 - (Tr.sizes (x.ks.take k) : Int)) y := ⟨_, rfl⟩
      unfold MayQ at HCL
      rw [← hB] at HCL
      have HB := Lib.hid hB
      have HWB := Lib.hid hwb
      have HROWB := Lib.hid hrow
      have hkI : (k : Int) < (x.ks.length : Int) := by omega
      have hdI : IntKind.i64.wrap ((d : Int) + 1) = (d : Int) + 1 := by rw [IntWalk.i64_in _ (by omega)]
      have HQ := Lib.hid (show 0 < k → ∃ z : Tr, x.ks[k - 1]? = some z ∧ wb.cell? (b3.add ((k - 1) * 4)) = some (.string (str z.n)) from fun h0 => by
        obtain ⟨z, hz⟩ : ∃ z, x.ks[k - 1]? = some z := ⟨_, List.getElem?_eq_getElem (by omega)⟩
        obtain ⟨b4, e4, ya4, yk4, ⟨z0, z1, z2, z3⟩, hnz⟩ := RdSl.elem (HX.out.onto HBB.out (Nat.le_refl _)).rd hz
        cases e4
        exact ⟨z, hz, z0⟩)
      clear hwb hbb hrow hny hy hB hvk0
      go_upto_region 11 with fail
      rw [← HWB.out]
      generalize wr.heap.size = KB at HROWB ⊢
      clear q0 q1 q2 q3
      have b0 : wb.cell? ⟨KB, 0, none⟩ = some (.string (str y.n)) := by rw [cell_of_row wb _ 0 _ _ (0, 0) HROWB.out]; rfl
      have b1 : wb.cell? ⟨KB, 1, none⟩ = some (.slice d1 y.ats.length d2) := by rw [cell_of_row wb _ 1 _ _ (0, 0) HROWB.out]; rfl
      have b2 : wb.cell? ⟨KB, 2, none⟩ = some (.slice d3 y.ks.length d4) := by rw [cell_of_row wb _ 2 _ _ (0, 0) HROWB.out]; rfl
      have b4 : wb.cell? ⟨KB, 3, none⟩ = some (.string (str y.t)) := by rw [cell_of_row wb _ 3 _ _ (0, 0) HROWB.out]; rfl
      have bV := HVC.out wb HGB.out
      obtain ⟨x0, x1, x2, x3⟩ := HXC.out wb HGB.out
      have hyE := empB_str y.n
      by_cases h0 : 0 < k
      · obtain ⟨z, hz, z0⟩ := HQ.out h0
        have hk0 : 0 < (k : Int) := by omega
        have hk1 : decide (0 < k) = true := decide_eq_true h0
        have hk2 : decide (0 < (k : Int)) = true := decide_eq_true hk0
        obtain ⟨j, hj⟩ : ∃ j, j = k - 1 := ⟨_, rfl⟩
        have hwk : IntKind.i64.wrap ((k : Int) - 1) = (j : Int) := by rw [IntWalk.i64_in _ (by omega)]; omega
        have hjI : (j : Int) < (x.ks.length : Int) := by omega
        have hpre : preT x.ks k = decide (z.n = []) := by unfold preT; rw [hz, hk1]; rfl
        rw [← hj] at z0
        have hzE := empB_str z.n
        have HJ := Lib.hid hj
        have HPRE := Lib.hid hpre
        clear hj hz hpre h0
        by_cases hyn : y.n = []
        · rw [decide_eq_true hyn] at hyE
          have HYN := Lib.hid hyn
          clear hyn
          by_cases hzn : z.n = []
          · rw [decide_eq_true hzn] at hzE
            have HM := Lib.hid (HKK.out.twice HNN.out HY.out HYN.out (by rw [HPRE.out]; exact decide_eq_true hzn))
            clear hzn
            go_wp2_with fail
            go_ret
            exact ⟨_, ret_bool HM.out.symm, grL_trans HG2.out HGB.out, HLB.out, fun h => by rw [HM.out] at h; cases h⟩
          · rw [decide_eq_false hzn] at hzE
            have HPP := Lib.hid (show y.n = [] → preT x.ks k = false from fun _ => by rw [HPRE.out]; exact decide_eq_false hzn)
            clear hzn
            cases B with
            | false =>
              have HM := Lib.hid (HKK.out.no HNN.out hd1 HY.out HB.out.symm)
              go_wp2_with (go_at_call 31; refine HCL.out.mono ?_; rintro e w9 ⟨v9, rfl, hg9, hl9, hm9⟩)
              go_ret
              exact ⟨v9, ret_bool HM.out.symm, grL_trans HG2.out (grL_trans HGB.out hg9), hl9, fun h => by rw [HM.out] at h; cases h⟩
            | true =>
              obtain ⟨hy1, hy2⟩ := HKK.out.yes hd1 HY.out HPP.out HB.out.symm
              have HK1 := Lib.hid hy1
              have HK2 := Lib.hid hy2
              clear hy1 hy2
              go_wp2_with (go_at_call 31; refine HCL.out.mono ?_; rintro e w9 ⟨v9, rfl, hg9, hl9, hm9⟩; have HG9 := Lib.hid (grL_trans HGB.out hg9); have HL9 := Lib.hid (show w9.heap[L]? = some (.cells #[.int .i64 (v - 1 - (Tr.sizes (x.ks.take (k + 1)) : Int))] 3 (0, 0)) by rw [hl9, hm9 rfl, HK2.out]); clear hg9 hl9 hm9)
              go_roundw
              case rel => exact ⟨k + 1, by omega, by go_num, HG9.out, HL9.out, HK1.out⟩
              case measure => simp [intOf]; omega
        · rw [decide_eq_false hyn] at hyE
          have HPP := Lib.hid (show y.n = [] → preT x.ks k = false from fun h => absurd h hyn)
          clear hyn
          cases B with
          | false =>
            have HM := Lib.hid (HKK.out.no HNN.out hd1 HY.out HB.out.symm)
            go_wp2_with (go_at_call 31; refine HCL.out.mono ?_; rintro e w9 ⟨v9, rfl, hg9, hl9, hm9⟩)
            go_ret
            exact ⟨v9, ret_bool HM.out.symm, grL_trans HG2.out (grL_trans HGB.out hg9), hl9, fun h => by rw [HM.out] at h; cases h⟩
          | true =>
            obtain ⟨hy1, hy2⟩ := HKK.out.yes hd1 HY.out HPP.out HB.out.symm
            have HK1 := Lib.hid hy1
            have HK2 := Lib.hid hy2
            clear hy1 hy2
            go_wp2_with (go_at_call 31; refine HCL.out.mono ?_; rintro e w9 ⟨v9, rfl, hg9, hl9, hm9⟩; have HG9 := Lib.hid (grL_trans HGB.out hg9); have HL9 := Lib.hid (show w9.heap[L]? = some (.cells #[.int .i64 (v - 1 - (Tr.sizes (x.ks.take (k + 1)) : Int))] 3 (0, 0)) by rw [hl9, hm9 rfl, HK2.out]); clear hg9 hl9 hm9)
            go_roundw
            case rel => exact ⟨k + 1, by omega, by go_num, HG9.out, HL9.out, HK1.out⟩
            case measure => simp [intOf]; omega
      · have hk0 : ¬ 0 < (k : Int) := by omega
        have hk1 : decide (0 < k) = false := decide_eq_false h0
        have hk2 : decide (0 < (k : Int)) = false := decide_eq_false hk0
        have HPP := Lib.hid (show y.n = [] → preT x.ks k = false from fun _ => by unfold preT; rw [hk1]; rfl)
        clear h0
        cases B with
        | false =>
          have HM := Lib.hid (HKK.out.no HNN.out hd1 HY.out HB.out.symm)
          go_wp2_with (go_at_call 31; refine HCL.out.mono ?_; rintro e w9 ⟨v9, rfl, hg9, hl9, hm9⟩)
          go_ret
          exact ⟨v9, ret_bool HM.out.symm, grL_trans HG2.out (grL_trans HGB.out hg9), hl9, fun h => by rw [HM.out] at h; cases h⟩
        | true =>
          obtain ⟨hy1, hy2⟩ := HKK.out.yes hd1 HY.out HPP.out HB.out.symm
          have HK1 := Lib.hid hy1
          have HK2 := Lib.hid hy2
          clear hy1 hy2
          go_wp2_with (go_at_call 31; refine HCL.out.mono ?_; rintro e w9 ⟨v9, rfl, hg9, hl9, hm9⟩; have HG9 := Lib.hid (grL_trans HGB.out hg9); have HL9 := Lib.hid (show w9.heap[L]? = some (.cells #[.int .i64 (v - 1 - (Tr.sizes (x.ks.take (k + 1)) : Int))] 3 (0, 0)) by rw [hl9, hm9 rfl, HK2.out]); clear hg9 hl9 hm9)
          go_roundw
          case rel => exact ⟨k + 1, by omega, by go_num, HG9.out, HL9.out, HK1.out⟩
          case measure => simp [intOf]; omega
    · have hke : (x.ks.length : Int) ≤ k := by omega
      obtain ⟨hm1, hm2⟩ := HKK.out.done HNN.out (by omega) HNB.out.symm HTE.out HAB.out.symm
      have HM := Lib.hid hm1
      have HM2 := Lib.hid hm2
      clear hm1 hm2
      go_wp2_with fail
      go_ret
      exact ⟨_, ret_bool HM.out.symm, grL_trans HG2.out HGR.out, HLR.out, fun _ => HM2.out⟩
theorem mayc_all : ∀ (m : Nat) (x : Tr), x.size ≤ m → MayC x
  | 0, x, h => by have := x.size_pos; omega
  | m + 1, x, h => mayc_step x fun k hk => mayc_all m k (by
    have h1 := Tr.size_mem hk
    have h2 := x.size_ks
    omega)
end
/-! MayW3 -/
section
open Go.RowKit

theorem mayR_top (x : Tr) : mayR 1 4096 x = x.mayB := by
  unfold mayR kB Tr.mayB
  have h1 : decide ((x.size : Int) ≤ 4096) = decide (x.size ≤ 4096) := by
    by_cases h : x.size ≤ 4096
    · rw [decide_eq_true h, decide_eq_true (by omega)]
    · rw [decide_eq_false h, decide_eq_false (by omega)]
  have h2 : decide (1 + x.dep ≤ 65) = decide (x.dep ≤ 64) := by
    by_cases h : x.dep ≤ 64
    · rw [decide_eq_true h, decide_eq_true (by omega)]
    · rw [decide_eq_false h, decide_eq_false (by omega)]
  rw [h1, h2]
  by_cases hn : x.n = []
  · rw [if_pos hn]
    have hr : x.rightB = false := by
      obtain ⟨n, ats, ks, t⟩ := x
      have hn : n = [] := hn
      subst hn
      rw [Tr.rightB]; rfl
    rw [hr]; simp
  · rw [if_neg hn]
    cases x.rightB <;> simp
set_option maxRecDepth 100000 in
set_option maxHeartbeats 2000000 in
/-- tree.May -/
theorem TMay_any (x : Tr) (va vk : Value) (w : World) (hx : NdV w (allF w) x va vk) (htb : x.tb) (htc : x.tc) :
    Calls Tryz.prog 15 #[nodeV x va vk] w fun e w' => e = .returned (.bool x.mayB) ∧ Below w.heap.size w w' := by
  obtain ⟨c1, c2, c3, c4, rfl, rfl⟩ := node_cells hx
  have HMC := Lib.hid (fun (L V : Nat) (w2 : World) (hb : Below w.heap.size w w2) (hL : w.heap.size ≤ L) (hLV : L < V) h1 h2 => mayc_all x.size x (Nat.le_refl _) w L V 1 4096 (.slice c1 x.ats.length c2) (.slice c3 x.ks.length c4) w2 hx hb hL hLV h1 h2 (by decide) (by decide) (by decide) (by decide) htb htc)
  unfold nodeV at HMC ⊢
  obtain ⟨w1, hw1⟩ : ∃ w1, w1 = ((w.alloc (.cells #[.string (str x.n), .slice c1 x.ats.length c2, .slice c3 x.ks.length c4, .string (str x.t)] 26)).alloc (.cells #[.int .i64 4096] 3)).alloc (.cells #[.nilFunc] 69) := ⟨_, rfl⟩
  have hb1 : Below w.heap.size w w1 := by rw [hw1]; exact (((Below.refl _ _).alloc (Nat.le_refl _) _).alloc (by simp) _).alloc (by simp; omega) _
  have hN1 : w1.heap[w.heap.size]? = some (.cells #[.string (str x.n), .slice c1 x.ats.length c2, .slice c3 x.ks.length c4, .string (str x.t)] 26 (0, 0)) := by
    rw [hw1, Below.heap_alloc _ _ _ (by simp; omega), Below.heap_alloc _ _ _ (by simp)]
    exact heap_alloc_new w _
  have hL1 : w1.heap[w.heap.size + 1]? = some (.cells #[.int .i64 4096] 3 (0, 0)) := by
    rw [hw1, Below.heap_alloc _ _ _ (by simp)]
    have := heap_alloc_new (w.alloc (.cells #[.string (str x.n), .slice c1 x.ats.length c2, .slice c3 x.ks.length c4, .string (str x.t)] 26)) (.cells #[.int .i64 4096] 3 (0, 0))
    simpa using this
  have hV1 : w1.heap[w.heap.size + 1 + 1]? = some (.cells #[.nilFunc] 69 (0, 0)) := by
    rw [hw1]
    have := heap_alloc_new ((w.alloc (.cells #[.string (str x.n), .slice c1 x.ats.length c2, .slice c3 x.ks.length c4, .string (str x.t)] 26)).alloc (.cells #[.int .i64 4096] 3 (0, 0))) (.cells #[.nilFunc] 69 (0, 0))
    simpa using this
  obtain ⟨F, hF⟩ : ∃ F, F = Value.func (.func 31) #[] #[.pointer (some ⟨w.heap.size + 1, 0, none⟩), .pointer (some ⟨w.heap.size + 1 + 1, 0, none⟩)] := ⟨_, rfl⟩
  obtain ⟨w2, hw2⟩ : ∃ w2, w2 = w1.setCell ⟨w.heap.size + 1 + 1, 0, none⟩ F := ⟨_, rfl⟩
  have hV2 : w2.heap[w.heap.size + 1 + 1]? = some (.cells #[F] 69 (0, 0)) := by rw [hw2]; exact heap_setCell_same w1 (w.heap.size + 1 + 1) 0 _ _ F hV1
  have hL2 : w2.heap[w.heap.size + 1]? = some (.cells #[.int .i64 4096] 3 (0, 0)) := by rw [hw2, heap_setCell_other w1 _ (w.heap.size + 1) F (fun e => by simp only at e; omega)]; exact hL1
  have hN2 : w2.heap[w.heap.size]? = some (.cells #[.string (str x.n), .slice c1 x.ats.length c2, .slice c3 x.ks.length c4, .string (str x.t)] 26 (0, 0)) := by rw [hw2, heap_setCell_other w1 _ w.heap.size F (fun e => by simp only at e; omega)]; exact hN1
  have hcV : w2.cell? ⟨w.heap.size + 1 + 1, 0, none⟩ = some F := by rw [cell_of_row w2 _ 0 _ _ (0, 0) hV2]; rfl
  have hb2 : Below w.heap.size w w2 := by rw [hw2]; exact hb1.setCell (p := ⟨w.heap.size + 1 + 1, 0, none⟩) (by simp only; omega) F
  have hcl := HMC.out (w.heap.size + 1) (w.heap.size + 1 + 1) w2 hb2 (by omega) (by omega) hL2 (by rw [hcV, hF])
  unfold MayQ at hcl
  rw [mayR_top] at hcl
  obtain ⟨R, hR⟩ : ∃ R, R = x.mayB := ⟨_, rfl⟩
  rw [← hR] at hcl
  have HRR := Lib.hid hR
  have HCL := Lib.hid hcl
  have HB2 := Lib.hid hb2
  have f1 : w1.frozen? ⟨w.heap.size + 1 + 1, 0, none⟩ = false := frozen_of_row w1 _ 0 _ _ hV1
  have v1 : w1.cell? ⟨w.heap.size + 1 + 1, 0, none⟩ = some .nilFunc := by rw [cell_of_row w1 _ 0 _ _ (0, 0) hV1]; rfl
  have HW1 := Lib.hid hw1
  have HW2 := Lib.hid hw2
  have HF := Lib.hid hF
  have HV2 := Lib.hid hV2
  have HN2 := Lib.hid hN2
  clear hw1 hw2 hx hb1 hN1 hL1 hV1 hV2 hL2 hN2 hcV hF hb2 hcl HMC htb htc hR
  go_enter Tryz.func15, Tryz.ntmps15
  go_upto_region 3 with fail
  rw [← HW1.out]
  go_upto_region 4 with fail
  rw [← HF.out, ← HW2.out]
  have b0 : w2.cell? ⟨w.heap.size, 0, none⟩ = some (.string (str x.n)) := by rw [cell_of_row w2 _ 0 _ _ (0, 0) HN2.out]; rfl
  have b1 : w2.cell? ⟨w.heap.size, 1, none⟩ = some (.slice c1 x.ats.length c2) := by rw [cell_of_row w2 _ 1 _ _ (0, 0) HN2.out]; rfl
  have b2 : w2.cell? ⟨w.heap.size, 2, none⟩ = some (.slice c3 x.ks.length c4) := by rw [cell_of_row w2 _ 2 _ _ (0, 0) HN2.out]; rfl
  have b3 : w2.cell? ⟨w.heap.size, 3, none⟩ = some (.string (str x.t)) := by rw [cell_of_row w2 _ 3 _ _ (0, 0) HN2.out]; rfl
  have bV : w2.cell? ⟨w.heap.size + 1 + 1, 0, none⟩ = some (.func (.func 31) #[] #[.pointer (some ⟨w.heap.size + 1, 0, none⟩), .pointer (some ⟨w.heap.size + 1 + 1, 0, none⟩)]) := by rw [cell_of_row w2 _ 0 _ _ (0, 0) HV2.out, HF.out]; rfl
  clear f1 v1
  go_wp2_with fail
  refine HCL.out.mono ?_
  rintro e w5 ⟨v5, rfl, hg5, hl5, hm5⟩
  have HB5 := Lib.hid (grL_low HB2.out (by omega) hg5)
  clear hg5 hl5 hm5 b0 b1 b2 b3 bV HCL
  go_wp2
  go_ret
  exact ⟨ret_bool HRR.out, HB5.out⟩
/-! tree.Count -/
def TCntAt (x : Tr) : Prop := ∀ (va vk : Value) (w : World), NdV w (allF w) x va vk → Calls Tryz.prog 17 #[nodeV x va vk] w fun e w' => e = .returned (.int .i64 (x.size : Int)) ∧ Below w.heap.size w w'
set_option maxRecDepth 100000 in
set_option maxHeartbeats 2000000 in
theorem tcnt_step (x : Tr) (hz : x.size ≤ 1000000) (hS : ∀ k ∈ x.ks, TCntAt k) : TCntAt x := by
  intro va vk w hx
  obtain ⟨c1, c2, c3, c4, rfl, rfl⟩ := node_cells hx
  obtain ⟨n, ats, ks, t⟩ := x
  unfold nodeV
  simp only [Tr.n, Tr.ats, Tr.ks, Tr.t] at hx hS ⊢
  obtain ⟨w1, hw1⟩ : ∃ w1, w1 = w.alloc (.cells #[.string (str n), .slice c1 ats.length c2, .slice c3 ks.length c4, .string (str t)] 26) := ⟨_, rfl⟩
  have hb1 : Below w.heap.size w w1 := by rw [hw1]; exact (Below.refl _ _).alloc (Nat.le_refl _) _
  have hX : w1.heap[w.heap.size]? = some (.cells #[.string (str n), .slice c1 ats.length c2, .slice c3 ks.length c4, .string (str t)] 26 (0, 0)) := by rw [hw1]; exact heap_alloc_new w _
  have HKX := Lib.hid (show ∀ w2, Below w.heap.size w w2 → RdSl 4 (NdAt w2 (allF w2)) (.slice c3 ks.length c4) ks from fun w2 hb => (hx.onto hb (Nat.le_refl _)).rd)
  have hkl := RdSl.len hx.rd
  simp only [Tr.ks] at hkl
  have hklI : (ks.length : Int) ≤ 9223372036854775807 := by omega
  have hsz : 1 + Tr.sizes ks ≤ 1000000 := hz
  have HS := Lib.hid hS
  have HW1 := Lib.hid hw1
  have HB1 := Lib.hid hb1
  have x2 : w1.cell? ⟨w.heap.size, 2, none⟩ = some (.slice c3 ks.length c4) := by rw [cell_of_row w1 _ 2 _ _ (0, 0) hX]; rfl
  clear hx hS hw1 hb1 hX hz
  go_enter Tryz.func17, Tryz.ntmps17
  go_upto_region 1 with fail
  rw [← HW1.out]
  go_upto_region 3 with fail
  clear x2
  go_loopw [3, 9] (fun s i wr => ∃ (k : Nat), k ≤ ks.length ∧ i = .int .i64 k ∧ s = .int .i64 ((1 + Tr.sizes (ks.take k) : Nat) : Int) ∧ Below w.heap.size w wr) (fun _ i _ => ks.length - (intOf i).toNat)
  case atStart => exact ⟨0, by omega, rfl, rfl, HB1.out⟩
  case round =>
    obtain ⟨k, hk, rfl, rfl, hbw⟩ := hrel
    have HB := Lib.hid hbw
    have hst := sizes_take ks k
    have hdt := deps_sizes (ks.take k)
    by_cases hlt : k < ks.length
    · obtain ⟨y, hy⟩ : ∃ y, ks[k]? = some y := ⟨_, List.getElem?_eq_getElem hlt⟩
      obtain ⟨a1, e1, va, vk, ⟨q0, q1, q2, q3⟩, hny⟩ := RdSl.elem (HKX.out wr hbw) hy
      subst e1
      obtain ⟨s1, s2, s3, s4, rfl, rfl⟩ := node_cells hny
      have hkI : (k : Int) < (ks.length : Int) := by omega
      obtain ⟨wb, hwb⟩ : ∃ wb, wb = wr.alloc (.cells #[.string (str y.n), .slice s1 y.ats.length s2, .slice s3 y.ks.length s4, .string (str y.t)] 26) := ⟨_, rfl⟩
      have hbb : Below wr.heap.size wr wb := by rw [hwb]; exact (Below.refl _ _).alloc (Nat.le_refl _) _
      have hrow : wb.heap[wr.heap.size]? = some (.cells #[.string (str y.n), .slice s1 y.ats.length s2, .slice s3 y.ks.length s4, .string (str y.t)] 26 (0, 0)) := by rw [hwb]; exact heap_alloc_new wr _
      have HC := Lib.hid (HS.out y (List.mem_of_getElem? hy) _ _ wb (hny.onto hbb (Nat.le_refl _)))
      unfold nodeV at HC
      have HBW := Lib.hid (hbw.trans (hbb.mono hbw.size))
      have HWB := Lib.hid hwb
      have HSN := Lib.hid (sizes_snoc ks k y hy)
      have HDN := Lib.hid (deps_snoc ks k y hy)
      have hs2 := sizes_take ks (k + 1)
      have hds := dep_size y
      rw [HSN.out] at hs2
      have r0 : wb.cell? ⟨wr.heap.size, 0, none⟩ = some (.string (str y.n)) := by rw [cell_of_row wb _ 0 _ _ (0, 0) hrow]; rfl
      have r1 : wb.cell? ⟨wr.heap.size, 1, none⟩ = some (.slice s1 y.ats.length s2) := by rw [cell_of_row wb _ 1 _ _ (0, 0) hrow]; rfl
      have r2 : wb.cell? ⟨wr.heap.size, 2, none⟩ = some (.slice s3 y.ks.length s4) := by rw [cell_of_row wb _ 2 _ _ (0, 0) hrow]; rfl
      have r3 : wb.cell? ⟨wr.heap.size, 3, none⟩ = some (.string (str y.t)) := by rw [cell_of_row wb _ 3 _ _ (0, 0) hrow]; rfl
      clear hy hbw hwb hbb hrow hny
      go_upto_region 5 with fail
      rw [← HWB.out]
      generalize wr.heap.size = Y at r0 r1 r2 r3 ⊢
      clear q0 q1 q2 q3
      go_wp2_with fail
      refine HC.out.mono ?_
      rintro e w5 ⟨rfl, hb5⟩
      have HB5 := Lib.hid (HBW.out.trans (hb5.mono HBW.out.size))
      obtain ⟨D, hD⟩ : ∃ D, D = 1 + Tr.sizes (ks.take k) := ⟨_, rfl⟩
      have HN := Lib.hid (show 1 + Tr.sizes (ks.take (k + 1)) = D + y.size by rw [HSN.out, hD]; omega)
      have hDI : (D : Int) + (y.size : Int) ≤ 1000000 := by omega
      rw [← hD]
      clear hb5 r0 r1 r2 r3 hD hs2 hds hst hdt
      generalize y.size = d at HN hDI ⊢
      go_wp2_with fail
      go_roundw
      case rel => exact ⟨k + 1, by omega, by go_num, by rw [HN.out]; go_num, HB5.out⟩
      case measure => simp [intOf]; omega
    · have hle : (ks.length : Int) ≤ k := by omega
      have HT := Lib.hid (show ks.take k = ks from List.take_of_length_le (by omega))
      rw [HT.out] at hst hdt ⊢
      have hfin : ((1 + Tr.sizes ks : Nat) : Int) ≤ 1000000 := by omega
      obtain ⟨D, hD⟩ : ∃ D, D = 1 + Tr.sizes ks := ⟨_, rfl⟩
      rw [← hD] at hfin ⊢
      have HD := Lib.hid hD
      clear hD hst hdt hbw
      go_wp2_with fail
      go_ret
      exact ⟨ret_int (by simp only [Tr.size, HD.out]), HB.out⟩
theorem tcnt_all : ∀ (m : Nat) (x : Tr), x.size ≤ m → x.size ≤ 1000000 → TCntAt x
  | 0, x, h, _ => absurd x.size_pos (by omega)
  | m + 1, x, h, hz => tcnt_step x hz fun k hk => tcnt_all m k (by
    have h1 := Tr.size_mem hk
    have h2 := x.size_ks
    omega) (by
    have h1 := Tr.size_mem hk
    have h2 := x.size_ks
    omega)
theorem TCount_any (x : Tr) (hz : x.size ≤ 1000000) : TCntAt x := tcnt_all x.size x (Nat.le_refl _) hz
end
/-! Sty3 -/
section
open Go.RowKit


def Tm.ofTk (x : Tk) : Tm := ⟨x.k, x.n, x.ats, x.t, 0, 0, 0⟩
structure FrG (f : Tr) : Prop where
  n : isN f.n
  t : f.t = []
  a : atsB [] f.ats = true
  k : Tr.ksB false f.ks = true
theorem FrG.right {f : Tr} (h : FrG f) : f.rightB = true := by
  obtain ⟨n, ats, ks, t⟩ := f
  rw [Tr.rightB]
  have h1 : nmB n = true := by
    obtain ⟨g1, g2⟩ := h.n
    unfold nmB
    rw [show decide (n ≠ []) = true from decide_eq_true g1, show decide (nameL n = n.length) = true from decide_eq_true g2]
    rfl
  rw [h1, show decide (t = []) = true from decide_eq_true h.t, show atsB [] ats = true from h.a, show Tr.ksB false ks = true from h.k]
  rfl
theorem atsB_of : ∀ (l pre : List At2), (∀ p ∈ l, okA p) → (l.map (·.1)).Nodup → (∀ p ∈ l, ∀ q ∈ pre, q.1 ≠ p.1) → atsB pre l = true
  | [], _, _, _, _ => rfl
  | a :: l, pre, h1, h2, h3 => by
    rw [List.map_cons, List.nodup_cons] at h2
    have ha := h1 a (by simp)
    rw [atsB]
    have e1 : nmB a.1 = true := by
      obtain ⟨g1, g2⟩ := ha.1
      unfold nmB
      rw [decide_eq_true g1, decide_eq_true g2]; rfl
    have e2 : plB a.2 = true := List.all_eq_true.2 ha.2
    have e3 : (pre.any fun b => a.1 == b.1) = false := by
      rw [List.any_eq_false]
      intro q hq
      have := h3 a (by simp) q hq
      simp only [beq_iff_eq]
      exact fun e => this e.symm
    rw [e1, e2, e3, atsB_of l (pre ++ [a]) (fun p hp => h1 p (by simp [hp])) h2.2 fun p hp q hq => by
      rcases List.mem_append.1 hq with hq | hq
      · exact h3 p (by simp [hp]) q hq
      · obtain rfl := List.mem_singleton.1 hq
        intro e
        exact h2.1 (List.mem_map.2 ⟨p, hp, e.symm⟩)]
    rfl
/-- the last of these is a text (b, if there is none) -/
def lastB (b : Bool) (l : List Tr) : Bool := match l.getLast? with
  | some k => decide (k.n = [])
  | none => b
theorem ksB_snoc : ∀ (l : List Tr) (b : Bool) (y : Tr), Tr.ksB b (l ++ [y]) = (Tr.ksB b l && (if y.n = [] then decide (y.ats = []) && decide (y.ks = []) && decide (y.t ≠ []) && plB y.t && !lastB b l else y.rightB))
  | [], b, y => by
    rw [List.nil_append, ksB_cons, Tr.ksB, Tr.ksB, Bool.and_true, Bool.true_and]
    rfl
  | x :: l, b, y => by
    rw [List.cons_append, ksB_cons, ksB_cons, ksB_snoc l _ y]
    have : lastB (decide (x.n = [])) l = lastB b (x :: l) := by
      unfold lastB
      cases l with
      | nil => rfl
      | cons z l =>
        rw [List.getLast?_cons_cons]
        cases hl : (z :: l).getLast? with
        | none => simp at hl
        | some k => rfl
    rw [this]
    exact (Bool.and_assoc _ _ _).symm
def dpt : List Tr → Prop
  | [] => True
  | f :: st => st.length + 1 + Tr.deps f.ks ≤ 64 ∧ dpt st
def cntS : List Tr → Nat
  | [] => 0
  | f :: st => f.size + cntS st
def wtS : List Tr → Nat
  | [] => 0
  | f :: st => ((tagP f.n f.ats).length + 1 + (prM (tkL f.ks)).length) + wtS st
def rtS : Option Tr → Nat
  | none => 0
  | some t => t.size
def rtW : Option Tr → Nat
  | none => 0
  | some t => (prM (tkT t)).length
/-- on the way; W: how long what was read is printed -/
structure GI (g : Gs) (W : Nat) : Prop where
  fr : ∀ f ∈ g.st, FrG f
  dp : dpt g.st
  ct : cntS g.st + rtS g.root = g.c
  c : g.c ≤ 4096
  rt : ∀ t, g.root = some t → g.st = [] ∧ t.rightB = true ∧ t.dep ≤ 64
  wt : wtS g.st + rtW g.root ≤ W
theorem GI.more {g : Gs} {W V : Nat} (h : GI g W) (hw : W ≤ V) : GI g V := ⟨h.fr, h.dp, h.ct, h.c, h.rt, Nat.le_trans h.wt hw⟩
theorem prT_el {x : Tr} (hn : x.n ≠ []) : (prM (tkT x)).length = if x.ks = [] then (tagP x.n x.ats).length + 2 else (tagP x.n x.ats).length + 1 + (prM (tkL x.ks)).length + (x.n.length + 3) := by
  by_cases hk : x.ks = []
  · rw [if_pos hk, tkT_empty hn hk, prM_cons]
    show ((tagP x.n x.ats ++ [47, 62]) ++ []).length = _
    simp
  · rw [if_neg hk, tkT_full hn hk, prM_cons, prM_app3]
    show ((tagP x.n x.ats ++ [62]) ++ (prM (tkL x.ks) ++ (60 :: 47 :: (x.n ++ [62]) ++ []))).length = _
    simp only [List.length_append, List.length_cons, List.length_nil]
    omega
theorem size_add (u x : Tr) : (u.add x).size = u.size + x.size := by
  unfold Tr.add
  rw [Tr.size, Tr.sizes_app, u.size_ks]
  simp only [Tr.sizes]; omega
theorem deps_one (l : List Tr) (x : Tr) (hn : x.n ≠ []) : Tr.deps (l ++ [x]) = max (Tr.deps l) x.dep := by
  rw [deps_app]
  simp only [Tr.deps]
  rw [if_neg hn]
  omega
theorem deps_txt (l : List Tr) (x : Tr) (hn : x.n = []) : Tr.deps (l ++ [x]) = Tr.deps l := by
  rw [deps_app]
  simp only [Tr.deps]
  rw [if_pos hn]
  omega
/-- the innermost one ends -/
theorem GI.leave {x : Tr} {st : List Tr} {c W E : Nat} (h : GI ⟨x :: st, none, c⟩ W) (hE : (prM (tkT x)).length ≤ (tagP x.n x.ats).length + 1 + (prM (tkL x.ks)).length + E) : GI (leaveG ⟨x :: st, none, c⟩) (W + E) := by
  have hx := h.fr x (by simp)
  have hr := hx.right
  have hd := h.dp
  have hw := h.wt
  have hct := h.ct
  simp only [dpt, wtS, rtW, cntS, rtS] at hd hw hct
  have hdx : x.dep = Tr.deps x.ks + 1 := x.dep_ks
  cases st with
  | nil =>
    show GI ⟨[], some x, c⟩ (W + E)
    refine ⟨by simp, trivial, ?_, h.c, fun t ht => ?_, ?_⟩
    · simp only [cntS, rtS] at hct ⊢; omega
    · cases ht
      exact ⟨rfl, hr, by have := hd.1; simp only [List.length_nil] at this; omega⟩
    · simp only [wtS, rtW] at hw ⊢; omega
  | cons u st =>
    show GI ⟨u.add x :: st, none, c⟩ (W + E)
    have hu := h.fr u (by simp)
    simp only [dpt, wtS, cntS] at hd hw hct
    refine ⟨fun f hf => ?_, ?_, ?_, h.c, (fun t ht => by cases ht), ?_⟩
    · rcases List.mem_cons.1 hf with rfl | hf
      · refine ⟨hu.n, hu.t, hu.a, ?_⟩
        show Tr.ksB false (u.ks ++ [x]) = true
        rw [ksB_snoc, hu.k, if_neg hx.n.1, hr]; rfl
      · exact h.fr f (by simp [hf])
    · refine ⟨?_, hd.2.2⟩
      show st.length + 1 + Tr.deps (u.ks ++ [x]) ≤ 64
      rw [deps_one _ _ hx.n.1]
      have h1 := hd.1
      have h2 := hd.2.1
      simp only [List.length_cons] at h1
      omega
    · show (u.add x).size + cntS st + 0 = c
      rw [size_add]; omega
    · show ((tagP u.n u.ats).length + 1 + (prM (tkL (u.ks ++ [x]))).length) + wtS st + 0 ≤ W + E
      rw [tkL_app, prM_app3, List.length_append]
      have : tkL [x] = tkT x := by simp [tkL]
      rw [this]
      omega
theorem escS_app (a b : List UInt8) : escS false (a ++ b) = escS false a ++ escS false b := by simp [escS]
theorem tk_txt (s : List UInt8) : prM (tkT (.mk [] [] [] s)) = escS false s := by
  rw [tkT_text rfl, prM_cons]
  show escS false s ++ [] = _
  rw [List.append_nil]
theorem GI.step {g g' : Gs} {W : Nat} {x : Tk} {b : Bool} (h : GI g W) (hx : Gd b x.k x.n x.ats x.t) (ha : addG g x = .ok g') : GI g' (W + (prT x.k x.n x.ats x.t).length) := by
  obtain ⟨k, n, ats, t, o⟩ := x
  obtain ⟨st, root, c⟩ := g
  dsimp only at hx
  have beg : ∀ {f0 : Gs}, isN n → (∀ p ∈ ats, okA p) → (ats.map (·.1)).Nodup → ¬ root.isSome = true → ¬ (64 ≤ st.length ∨ 4096 ≤ c) → GI ⟨.mk n ats [] [] :: st, root, c + 1⟩ (W + ((tagP n ats).length + 1)) ∧ root = none := fun {f0} h1 h2 h3 h4 h5 => by
    have hr : root = none := by
      cases root with
      | none => rfl
      | some t => simp at h4
    subst hr
    have hw := h.wt
    have hct := h.ct
    simp only [rtW, rtS] at hw hct
    refine ⟨⟨fun f hf => ?_, ⟨?_, h.dp⟩, ?_, by show c + 1 ≤ 4096; omega, (fun t ht => by cases ht), ?_⟩, rfl⟩
    · rcases List.mem_cons.1 hf with rfl | hf
      · exact ⟨h1, rfl, atsB_of _ _ h2 h3 (by simp), rfl⟩
      · exact h.fr f hf
    · show st.length + 1 + Tr.deps [] ≤ 64
      simp only [Tr.deps]; omega
    · show (Tr.mk n ats [] []).size + cntS st + 0 = c + 1
      simp only [Tr.size, Tr.sizes]; omega
    · show ((tagP n ats).length + 1 + (prM (tkL [])).length) + wtS st + 0 ≤ _
      simp only [tkL, prM, List.flatMap_nil, List.length_nil]; omega
  rcases hx with ⟨rfl, rfl, rfl, hx⟩ | ⟨rfl, rfl, rfl, hx⟩ | ⟨rfl, rfl, rfl, hx, _⟩ | ⟨rfl, hn, rfl, rfl⟩ | ⟨hk, hn, hok, hnd, rfl⟩
  · -- a text
    have ha : textG ⟨st, root, c⟩ t = .ok g' := ha
    show GI g' (W + (escS false t).length)
    unfold textG at ha
    cases st with
    | nil =>
      dsimp only at ha
      split at ha
      · cases ha; exact h.more (by omega)
      · cases ha
    | cons u st =>
      dsimp only at ha
      split at ha
      · cases ha; exact h.more (by omega)
      · next ht =>
        have hu := h.fr u (by simp)
        have hd := h.dp
        have hw := h.wt
        have hct := h.ct
        have hroot : root = none := by
          cases hr : root with
          | none => rfl
          | some t => have := (h.rt t hr).1; cases this
        subst hroot
        simp only [dpt, wtS, rtW, cntS, rtS] at hd hw hct
        have hpl : plB t = true := List.all_eq_true.2 hx
        have new : lastB false u.ks = false → ¬ 4096 ≤ c → GI ⟨u.add (.mk [] [] [] t) :: st, none, c + 1⟩ (W + (escS false t).length) := fun hl hc => by
          refine ⟨fun f hf => ?_, ⟨?_, hd.2⟩, ?_, by show c + 1 ≤ 4096; omega, (fun t ht => by cases ht), ?_⟩
          · rcases List.mem_cons.1 hf with rfl | hf
            · refine ⟨hu.n, hu.t, hu.a, ?_⟩
              show Tr.ksB false (u.ks ++ [Tr.mk [] [] [] t]) = true
              rw [ksB_snoc, hu.k, if_pos (show (Tr.mk [] [] [] t).n = [] from rfl), hl]
              show (true && (decide (([] : List At2) = []) && decide (([] : List Tr) = []) && decide (t ≠ []) && plB t && !false)) = true
              rw [hpl, decide_eq_true ht]
              simp
            · exact h.fr f (by simp [hf])
          · show st.length + 1 + Tr.deps (u.ks ++ [Tr.mk [] [] [] t]) ≤ 64
            rw [deps_txt _ _ rfl]; exact hd.1
          · show (u.add (Tr.mk [] [] [] t)).size + cntS st + 0 = c + 1
            rw [size_add]
            simp only [Tr.size, Tr.sizes]; omega
          · show ((tagP u.n u.ats).length + 1 + (prM (tkL (u.ks ++ [Tr.mk [] [] [] t]))).length) + wtS st + 0 ≤ _
            rw [tkL_app, prM_app3, List.length_append]
            have : tkL [Tr.mk [] [] [] t] = tkT (Tr.mk [] [] [] t) := by simp [tkL]
            rw [this, tk_txt]
            omega
        split at ha
        · next k hk =>
          split at ha
          · next hkn =>
            cases ha
            obtain ⟨ks, hks⟩ := List.getLast?_eq_some_iff.1 hk
            have hkk := hu.k
            rw [hks, ksB_snoc, if_pos hkn, Bool.and_eq_true] at hkk
            obtain ⟨g1, g2⟩ := hkk
            simp only [Bool.and_eq_true, decide_eq_true_eq] at g2
            obtain ⟨⟨⟨⟨q1, q2⟩, q3⟩, q4⟩, q5⟩ := g2
            obtain ⟨kn, ka, kk, kt⟩ := k
            dsimp only [Tr.n, Tr.ats, Tr.ks, Tr.t] at hkn q1 q2 q3 q4
            subst hkn; subst q1; subst q2
            have hput : u.put (Tr.mk [] [] [] (kt ++ t)) = Tr.mk u.n u.ats (ks ++ [Tr.mk [] [] [] (kt ++ t)]) u.t := by
              unfold Tr.put
              rw [hks, List.dropLast_concat]
            have hsz : u.size = 1 + (Tr.sizes ks + 1) := by
              rw [u.size_ks, hks, Tr.sizes_app]; simp [Tr.sizes, Tr.size]
            have hdk : Tr.deps u.ks = Tr.deps ks := by rw [hks]; exact deps_txt _ _ rfl
            have hpk : (prM (tkL u.ks)).length = (prM (tkL ks)).length + (escS false kt).length := by
              rw [hks, tkL_app, prM_app3, List.length_append]
              have : tkL [Tr.mk [] [] [] kt] = tkT (Tr.mk [] [] [] kt) := by simp [tkL]
              rw [this, tk_txt]
            show GI ⟨u.put (Tr.mk [] [] [] (kt ++ t)) :: st, none, c⟩ _
            rw [hput]
            refine ⟨fun f hf => ?_, ⟨?_, hd.2⟩, ?_, h.c, (fun t ht => by cases ht), ?_⟩
            · rcases List.mem_cons.1 hf with rfl | hf
              · refine ⟨hu.n, hu.t, hu.a, ?_⟩
                show Tr.ksB false (ks ++ [Tr.mk [] [] [] (kt ++ t)]) = true
                rw [ksB_snoc, g1, if_pos (show (Tr.mk [] [] [] (kt ++ t)).n = [] from rfl)]
                show (true && (decide (([] : List At2) = []) && decide (([] : List Tr) = []) && decide (kt ++ t ≠ []) && plB (kt ++ t) && !lastB false ks)) = true
                have e1 : plB (kt ++ t) = true := by unfold plB at hpl q4 ⊢; rw [List.all_append, q4, hpl]; rfl
                have e2 : decide (kt ++ t ≠ []) = true := decide_eq_true (by simp [ht])
                rw [e1, e2, q5]
                simp
              · exact h.fr f (by simp [hf])
            · show st.length + 1 + Tr.deps (ks ++ [Tr.mk [] [] [] (kt ++ t)]) ≤ 64
              rw [deps_txt _ _ rfl]; have := hd.1; omega
            · show (Tr.mk u.n u.ats (ks ++ [Tr.mk [] [] [] (kt ++ t)]) u.t).size + cntS st + 0 = c
              rw [Tr.size, Tr.sizes_app]
              simp only [Tr.size, Tr.sizes]; omega
            · show ((tagP u.n u.ats).length + 1 + (prM (tkL (ks ++ [Tr.mk [] [] [] (kt ++ t)]))).length) + wtS st + 0 ≤ _
              rw [tkL_app, prM_app3, List.length_append]
              have : tkL [Tr.mk [] [] [] (kt ++ t)] = tkT (Tr.mk [] [] [] (kt ++ t)) := by simp [tkL]
              rw [this, tk_txt, escS_app, List.length_append]
              omega
          · next hkn =>
            split at ha
            · cases ha
            · next hc =>
              cases ha
              exact new (by unfold lastB; rw [hk]; exact decide_eq_false hkn) hc
        · next hk =>
          split at ha
          · cases ha
          · next hc =>
            cases ha
            exact new (by unfold lastB; rw [hk]) hc
  · have ha : Rg.ok ⟨st, root, c⟩ = .ok g' := ha
    cases ha; exact h.more (by omega)
  · have ha : Rg.ok ⟨st, root, c⟩ = .ok g' := ha
    cases ha; exact h.more (by omega)
  · have ha : endG ⟨st, root, c⟩ n = .ok g' := ha
    unfold endG at ha
    cases st with
    | nil => cases ha
    | cons x st =>
      dsimp only at ha
      split at ha
      · next hxn =>
        cases ha
        have hroot : root = none := by
          cases hr : root with
          | none => rfl
          | some t => have := (h.rt t hr).1; cases this
        subst hroot
        refine h.leave ?_
        have hxx := h.fr x (by simp)
        rw [prT_el hxx.n.1, hxn]
        show _ ≤ _ + (60 :: 47 :: (n ++ [62])).length
        simp only [List.length_append, List.length_cons, List.length_nil]
        split <;> omega
      · cases ha
  · have ha : beginG ⟨st, root, c⟩ n ats k = .ok g' := by
      have : addG ⟨st, root, c⟩ ⟨k, n, ats, [], o⟩ = beginG ⟨st, root, c⟩ n ats k := by unfold addG; exact if_pos hk
      rw [← this]; exact ha
    unfold beginG at ha
    split at ha
    · cases ha
    · next h4 =>
      split at ha
      · cases ha
      · next h5 =>
        obtain ⟨hg, hr⟩ := beg (f0 := g') hn hok hnd h4 h5
        subst hr
        split at ha
        · next hk2 =>
          cases ha
          have e : (prT k n ats []).length = (tagP n ats).length + 1 + 1 := by
            rw [hk2]
            show (tagP n ats ++ [47, 62]).length = _
            simp
          rw [e, show W + ((tagP n ats).length + 1 + 1) = (W + ((tagP n ats).length + 1)) + 1 by omega]
          refine hg.leave ?_
          rw [prT_el (x := .mk n ats [] []) hn.1, if_pos (show (Tr.mk n ats [] []).ks = [] from rfl)]
          show (tagP n ats).length + 2 ≤ (tagP n ats).length + 1 + _ + 1
          omega
        · next hk2 =>
          cases ha
          have hk1 : k = 1 := by omega
          have e : (prT k n ats []).length = (tagP n ats).length + 1 := by
            rw [hk1]
            show (tagP n ats ++ [62]).length = _
            simp
          rw [e]
          exact hg
theorem GI.all {n : Nat} : ∀ (ts : List Tk) {g : Gs} {W : Nat} {t : Tr}, GI g W → (∀ x ∈ ts, ∃ b, Gd b x.k x.n x.ats x.t) → growM n g ts = .ok t → t.mayB = true ∧ (prM (tkT t)).length ≤ W + (prM (ts.map Tm.ofTk)).length
  | [], g, W, t, h, _, hg => by
    rw [growM] at hg
    split at hg
    · cases hg
    · next hst =>
      split at hg
      · cases hg
      · next t0 hr =>
        cases hg
        obtain ⟨h1, h2, h3⟩ := h.rt t hr
        have hct := h.ct
        have hw := h.wt
        rw [h1, hr] at hct hw
        simp only [cntS, rtS, wtS, rtW] at hct hw
        have hc := h.c
        refine ⟨?_, by omega⟩
        unfold Tr.mayB
        rw [h2, decide_eq_true (show t.size ≤ 4096 by omega), decide_eq_true h3]
        rfl
  | x :: ts, g, W, t, h, hx, hg => by
    rw [growM] at hg
    obtain ⟨b, hb⟩ := hx x (by simp)
    cases ha : addG g x with
    | bad e => rw [ha] at hg; cases hg
    | ok g' =>
      rw [ha] at hg
      have := GI.all ts (h.step hb ha) (fun y hy => hx y (by simp [hy])) hg
      refine ⟨this.1, ?_⟩
      have e : (prM ((x :: ts).map Tm.ofTk)).length = (prT x.k x.n x.ats x.t).length + (prM (ts.map Tm.ofTk)).length := by
        rw [List.map_cons, prM_cons, List.length_append]; rfl
      rw [e]
      have := this.2
      omega
/-- what is built of a text -/
theorem build_may {l : List UInt8} {t : Tr} (h : buildM l = .ok t) : t.mayB = true ∧ (prM (tkT t)).length ≤ 6 * l.length := by
  unfold buildM at h
  cases ha : allM l with
  | bad e r => rw [ha] at h; cases h
  | ok ts r =>
    rw [ha] at h
    obtain ⟨g1, g2⟩ := chain_gd ts (all_chain ha) (Nat.le_refl _)
    have h0 : GI ⟨[], none, 0⟩ 0 := ⟨by simp, trivial, rfl, by simp, (fun t ht => by cases ht), by simp [wtS, rtW]⟩
    obtain ⟨q1, q2⟩ := GI.all ts h0 (fun x hx => by
      obtain ⟨i, hi⟩ := List.getElem?_of_mem hx
      exact ⟨_, g2 i x hi⟩) h
    refine ⟨q1, ?_⟩
    have e : (prM (ts.map Tm.ofTk)).length = (prM (ts.map (Tk.mem l))).length := by
      unfold prM
      rw [List.flatMap_map, List.flatMap_map]
      rfl
    omega
/-! errors -/
theorem add_bad3 {g : Gs} {x : Tk} {e : Int} (h : addG g x = .bad e) : e ≠ 0 := by
  unfold addG at h
  split at h
  · unfold beginG at h
    split at h
    · cases h; decide
    · split at h
      · cases h; decide
      · split at h <;> cases h
  · split at h
    · unfold endG at h
      split at h
      · cases h; decide
      · split at h
        · cases h
        · cases h; decide
    · split at h
      · unfold textG at h
        split at h
        · split at h
          · cases h
          · cases h; decide
        · split at h
          · cases h
          · split at h
            · split at h
              · cases h
              · split at h
                · cases h; decide
                · cases h
            · split at h
              · cases h; decide
              · cases h
      · cases h
theorem grow_bad3 {n : Nat} : ∀ (ts : List Tk) {g : Gs} {e : Int} {o : Nat}, growM n g ts = .bad e o → e ≠ 0 ∧ (o = n ∨ ∃ x ∈ ts, o = x.o)
  | [], g, e, o, h => by
    rw [growM] at h
    split at h
    · cases h; exact ⟨by decide, .inl rfl⟩
    · split at h
      · cases h; exact ⟨by decide, .inl rfl⟩
      · cases h
  | x :: ts, g, e, o, h => by
    rw [growM] at h
    cases ha : addG g x with
    | ok g' =>
      rw [ha] at h
      obtain ⟨h1, h2⟩ := grow_bad3 ts h
      refine ⟨h1, h2.imp id ?_⟩
      rintro ⟨y, hy, he⟩
      exact ⟨y, by simp [hy], he⟩
    | bad e' =>
      rw [ha] at h
      cases h
      exact ⟨add_bad3 ha, .inr ⟨x, by simp, rfl⟩⟩
theorem build_err {l : List UInt8} {c : Int} {o : Nat} (h : buildM l = .bad c o) : c ≠ 0 ∧ o ≤ l.length := by
  unfold buildM at h
  cases ha : allM l with
  | bad e r =>
    rw [ha] at h
    cases h
    exact ⟨all_ne ha, Nat.sub_le _ _⟩
  | ok ts r =>
    rw [ha] at h
    obtain ⟨h1, h2⟩ := grow_bad3 ts h
    refine ⟨h1, ?_⟩
    rcases h2 with rfl | ⟨x, hx, rfl⟩
    · exact Nat.le_refl _
    · obtain ⟨i, hi⟩ := List.getElem?_of_mem hx
      exact Nat.le_of_lt (rise_at ha hi).1
/-! sizes out of the print -/
theorem atsP_sizes : ∀ (l : List At2), l.length ≤ (l.flatMap atP).length ∧ ∀ p ∈ l, p.1.length ≤ (l.flatMap atP).length ∧ p.2.length ≤ (l.flatMap atP).length
  | [] => ⟨by simp, by simp⟩
  | p :: l => by
    obtain ⟨h1, h2⟩ := atsP_sizes l
    have he := esc_ge true p.2
    have hp : (atP p).length = 1 + p.1.length + 2 + (escS true p.2).length + 1 := by
      unfold atP
      simp only [List.length_cons, List.length_append, List.length_nil]
      omega
    simp only [List.flatMap_cons, List.length_append, List.length_cons]
    refine ⟨by omega, fun q hq => ?_⟩
    rcases List.mem_cons.1 hq with rfl | hq
    · omega
    · have := h2 q hq
      omega
theorem tagP_len (n : List UInt8) (ats : List At2) : (tagP n ats).length = 1 + n.length + (ats.flatMap atP).length := by
  unfold tagP
  simp only [List.length_cons, List.length_append]
  omega
theorem tbs_app : ∀ a b : List Tr, Tr.tbs (a ++ b) ↔ Tr.tbs a ∧ Tr.tbs b
  | [], b => by simp [Tr.tbs]
  | x :: a, b => by
    have := tbs_app a b
    simp only [List.cons_append, Tr.tbs, this, and_assoc]
mutual
theorem tb_of : ∀ (x : Tr), x.rightB = true → (prM (tkT x)).length ≤ 100000 → x.tb ∧ x.tc
  | .mk n ats ks t, h, hl => by
    obtain ⟨h1, h2, h3, h4⟩ := right_parts h
    dsimp only [Tr.n, Tr.t, Tr.ats, Tr.ks] at h1 h2 h3 h4
    rw [prT_el (x := .mk n ats ks t) h1.1] at hl
    have ht := tagP_len n ats
    obtain ⟨a1, a2⟩ := atsP_sizes ats
    have hk : (prM (tkL ks)).length ≤ 100000 ∧ (tagP n ats).length ≤ 100000 := by
      by_cases e : ks = []
      · rw [if_pos (show (Tr.mk n ats ks t).ks = [] from e)] at hl
        have hl : (tagP n ats).length + 2 ≤ 100000 := hl
        subst e; simp [tkL, prM]; omega
      · rw [if_neg (show ¬ (Tr.mk n ats ks t).ks = [] from e)] at hl
        have hl : (tagP n ats).length + 1 + (prM (tkL ks)).length + (n.length + 3) ≤ 100000 := hl
        omega
    obtain ⟨k1, k2⟩ := tbs_of ks false h4 hk.1
    exact ⟨⟨by omega, by rw [h2]; simp, fun p hp => by have := a2 p hp; omega, k1⟩, by omega, k2⟩
theorem tbs_of : ∀ (l : List Tr) (b : Bool), Tr.ksB b l = true → (prM (tkL l)).length ≤ 100000 → Tr.tbs l ∧ Tr.tcs l
  | [], _, _, _ => ⟨trivial, trivial⟩
  | x :: l, b, h, hl => by
    obtain ⟨h1, h2⟩ := ks_parts h
    rw [tkL, prM_app3, List.length_append] at hl
    obtain ⟨g1, g2⟩ := tbs_of l _ h2 (by omega)
    rcases h1 with ⟨q1, q2, q3, q4, q5, q6⟩ | ⟨q1, q2⟩
    · obtain ⟨n, ats, ks, t⟩ := x
      dsimp only [Tr.n, Tr.t, Tr.ats, Tr.ks] at q1 q2 q3 q4 q5
      subst q1; subst q2; subst q3
      rw [tk_txt] at hl
      have he := esc_ge false t
      exact ⟨⟨⟨by simp, by omega, by simp, trivial⟩, g1⟩, ⟨⟨by simp, trivial⟩, g2⟩⟩
    · obtain ⟨x1, x2⟩ := tb_of x q2 (by omega)
      exact ⟨⟨x1, g1⟩, ⟨x2, g2⟩⟩
end
theorem prT_in : ∀ (M : List Tm) (y : Tm), y ∈ M → (prT y.k y.n y.ats y.t).length ≤ (prM M).length
  | [], y, h => by simp at h
  | x :: M, y, h => by
    rw [prM_cons, List.length_append]
    rcases List.mem_cons.1 h with rfl | h
    · omega
    · have := prT_in M y h; omega
/-- the bounds that printing wants -/
theorem print_ok {x : Tr} (h : x.rightB = true) (hl : (prM (tkT x)).length ≤ 100000) : ∀ y ∈ tkT x, y.t.length ≤ 2000000 ∧ ∀ p ∈ y.ats, p.2.length ≤ 2000000 := by
  intro y hy
  have h1 := prT_in _ y hy
  obtain ⟨h2, _⟩ := (okT_T x h).1 y hy
  rcases h2 with ⟨hk, hn, ha, _⟩ | ⟨hk, hn, ha, _⟩ | ⟨hk, hn, ha, _, _, hf⟩ | ⟨hk, _, ha, ht⟩ | ⟨hk, _, _, _, ht⟩
  · rw [ha]
    rw [show prT y.k y.n y.ats y.t = escS false y.t by rw [hk]; rfl] at h1
    have := esc_ge false y.t
    exact ⟨by omega, by simp⟩
  · rw [ha]
    rw [show prT y.k y.n y.ats y.t = 60 :: 33 :: 45 :: 45 :: (y.t ++ [45, 45, 62]) by rw [hk]; rfl] at h1
    simp only [List.length_cons, List.length_append, List.length_nil] at h1
    exact ⟨by omega, by simp⟩
  · cases hf
  · rw [ha, ht]; simp
  · rw [ht]
    obtain ⟨a1, a2⟩ := atsP_sizes y.ats
    have hg := tagP_len y.n y.ats
    refine ⟨by simp, fun p hp => ?_⟩
    have := (a2 p hp).2
    rcases hk with hk | hk
    · rw [show prT y.k y.n y.ats y.t = tagP y.n y.ats ++ [62] by rw [hk]; rfl, List.length_append] at h1
      omega
    · rw [show prT y.k y.n y.ats y.t = tagP y.n y.ats ++ [47, 62] by rw [hk]; rfl, List.length_append] at h1
      omega
end
/-! Laws03g -/
section
open Go.ChangeShapes Go.WideShapes Go.ChangeAt Go.RowKit
open Go.ChangeMaps (open_string shut_string)

set_option maxHeartbeats 1000000 in
theorem cut3_any (s : ByteArray) (hs : s.size ≤ 9223372036854775807) (w : World) :
    Calls Tryz.prog 6 #[.string s] w fun e w' => ∃ l : List UInt8, e = .returned (.string (str l)) ∧ l.length ≤ 2000 ∧ w' = w := by
  by_cases h : 2000 < s.size
  · have h1 : (2000 : Int) < s.size := by omega
    have H2 := Lib.hid (show ∃ l : List UInt8, s.extract 0 2000 = str l ∧ l.length ≤ 2000 from ⟨s.data.toList.take 2000, by rw [ext_str, List.drop_zero], by rw [List.length_take]; omega⟩)
    go_enter Tryz.func6, Tryz.ntmps6
    go_wp2
    go_ret
    obtain ⟨l, h3, h4⟩ := H2.out
    exact ⟨l, by rw [h3]; rfl, h4, rfl⟩
  · have h1 : (s.size : Int) ≤ 2000 := by omega
    have H2 := Lib.hid (show ∃ l : List UInt8, s = str l ∧ l.length ≤ 2000 from ⟨s.data.toList, by unfold str; rw [Array.toArray_toList], by simp; omega⟩)
    go_enter Tryz.func6, Tryz.ntmps6
    go_wp2
    go_ret
    obtain ⟨l, h3, h4⟩ := H2.out
    exact ⟨l, by rw [h3]; rfl, h4, rfl⟩
abbrev VrS (w0 : World) (X : Nat) (a b c d : Value) (w' : World) : Prop := w'.cell? ⟨X, 0, none⟩ = some a ∧ w'.cell? ⟨X, 1, none⟩ = some b ∧ w'.cell? ⟨X, 2, none⟩ = some c ∧ w'.cell? ⟨X, 3, none⟩ = some d
set_option maxRecDepth 100000 in
set_option maxHeartbeats 4000000 in
theorem walk_TreeStays (s : ByteArray) (hs : s.size ≤ 9223372036854775807) (w : World) (hT : Lib.Utf8Tabs 1 2 w) :
    Calls Tryz.prog 5 #[.string s] w fun e w' => e = .returned (.bool true) ∧ Below w.heap.size w w' := by
  have HLV := Lib.hid (show ∀ w2, Below w.heap.size w w2 → Calls Tryz.prog 10 #[] w2 fun e w' => e = .returned (.bool true) ∧ Below w2.heap.size w2 w' from fun w2 hb => lives03 w2 (Utf8Tabs_below hT hb))
  have HBD := Lib.hid (show ∀ (l : List UInt8), l.length ≤ 1000000 → ∀ w2, Below w.heap.size w w2 → Calls Tryz.prog 7 #[.string (str l)] w2 (BuildP l w2) from fun l hl w2 hb => Build_any l hl w2 (Utf8Tabs_below hT hb))
  have HCT := Lib.hid (cut3_any s hs w)
  clear hs hT
  go_enter Tryz.func5, Tryz.ntmps5
  go_wp2_with fail
  refine HCT.out.mono ?_
  rintro e w2 ⟨l, rfl, hl, hw2⟩
  obtain rfl : w = w2 := hw2.symm
  clear hw2
  have HL := Lib.hid hl
  have hlI : ((str l).size : Int) ≤ 2000 := by rw [size_str]; omega
  have hsz : (str l).size = l.length := size_str l
  have HB := Lib.hid (HBD.out l (by omega) _ (Below.refl _ _))
  clear HCT hl
  go_wp2_with fail
  refine HB.out.mono ?_
  rintro e w3 hq
  unfold BuildP at hq
  obtain ⟨hb3, hq⟩ := hq
  obtain ⟨M, hM⟩ : ∃ M, M = buildM l := ⟨_, rfl⟩
  rw [← hM] at hq
  have HM := Lib.hid hM
  have HB3 := Lib.hid hb3
  clear hM hb3 HB
  cases M with
  | bad c o =>
    obtain rfl := hq
    obtain ⟨hc0, ho⟩ := build_err HM.out.symm
    have hcE : (c == 0) = false := by rw [beq_eq_false_iff_ne]; exact hc0
    have hcN : (c != 0) = true := by unfold bne; rw [hcE]; rfl
    have hoI : (o : Int) ≤ (l.length : Int) := by omega
    have hln := (lineS_bd (l.take o)).1
    have hcl := (colS_bd (l.take o)).1
    generalize lineS (l.take o) = LN at hln ⊢
    generalize colS (l.take o) = CL at hcl ⊢
    clear hc0 ho
    go_upto_region 3 with fail
    obtain ⟨w4, hw4⟩ : ∃ v, v = (w3.alloc (.cells #[.string ⟨#[]⟩, .slice none 0 0, .slice none 0 0, .string ⟨#[]⟩] 26)).alloc (.cells #[.int .i64 (o : Int), .int .i64 LN, .int .i64 CL] 29) := ⟨_, rfl⟩
    rw [← hw4]
    have hbw4 : Below w3.heap.size w3 w4 := by rw [hw4]; exact ((Below.refl _ _).alloc (Nat.le_refl _) _).alloc (by simp) _
    have hMw4 : w4.heap[w3.heap.size]? = some (.cells #[.string ⟨#[]⟩, .slice none 0 0, .slice none 0 0, .string ⟨#[]⟩] 26 (0, 0)) := by
      rw [hw4, Below.heap_alloc _ _ _ (by simp)]
      exact heap_alloc_new w3 _
    have hPw4 : w4.heap[w3.heap.size + 1]? = some (.cells #[.int .i64 (o : Int), .int .i64 LN, .int .i64 CL] 29 (0, 0)) := by
      rw [hw4]
      have := heap_alloc_new (w3.alloc (.cells #[.string ⟨#[]⟩, .slice none 0 0, .slice none 0 0, .string ⟨#[]⟩] 26)) (.cells #[.int .i64 (o : Int), .int .i64 LN, .int .i64 CL] 29 (0, 0))
      simpa using this
    have HB4 := Lib.hid (HB3.out.trans (hbw4.mono HB3.out.size))
    have HB34 := Lib.hid hbw4
    clear hw4 hbw4
    generalize w3.heap.size + 1 = PB at hPw4 ⊢
    generalize w3.heap.size = MB at hMw4 ⊢
    have HMR := Lib.hid (show ∀ v, Below w4.heap.size w4 v → v.heap[MB]? = some (.cells #[.string ⟨#[]⟩, .slice none 0 0, .slice none 0 0, .string ⟨#[]⟩] 26 (0, 0)) from fun v hb => (hb.block MB (Array.getElem?_eq_some_iff.1 hMw4).1).trans hMw4)
    have m0 : w4.cell? ⟨MB, 0, none⟩ = some (.string ⟨#[]⟩) := by rw [cell_of_row w4 _ 0 _ _ (0, 0) hMw4]; rfl
    have m1 : w4.cell? ⟨MB, 1, none⟩ = some (.slice none 0 0) := by rw [cell_of_row w4 _ 1 _ _ (0, 0) hMw4]; rfl
    have m2 : w4.cell? ⟨MB, 2, none⟩ = some (.slice none 0 0) := by rw [cell_of_row w4 _ 2 _ _ (0, 0) hMw4]; rfl
    have m3 : w4.cell? ⟨MB, 3, none⟩ = some (.string ⟨#[]⟩) := by rw [cell_of_row w4 _ 3 _ _ (0, 0) hMw4]; rfl
    have p0 : w4.cell? ⟨PB, 0, none⟩ = some (.int .i64 (o : Int)) := by rw [cell_of_row w4 _ 0 _ _ (0, 0) hPw4]; rfl
    have p1 : w4.cell? ⟨PB, 1, none⟩ = some (.int .i64 LN) := by rw [cell_of_row w4 _ 1 _ _ (0, 0) hPw4]; rfl
    have p2 : w4.cell? ⟨PB, 2, none⟩ = some (.int .i64 CL) := by rw [cell_of_row w4 _ 2 _ _ (0, 0) hPw4]; rfl
    clear hMw4 hPw4
    have HSA := Lib.hid (refSame_any Tr.nil Tr.nil (.slice none 0 0) (.slice none 0 0) (.slice none 0 0) (.slice none 0 0) w4 (.leaf (.inl ⟨rfl, rfl⟩) (fun h => absurd rfl h)) (.leaf (.inl ⟨rfl, rfl⟩) (fun h => absurd rfl h)))
    rw [eqT_self] at HSA
    unfold nodeV at HSA
    have HSA := Lib.hid (show Calls Tryz.prog 9 #[.agg #[.string ⟨#[]⟩, .slice none 0 0, .slice none 0 0, .string ⟨#[]⟩], .agg #[.string ⟨#[]⟩, .slice none 0 0, .slice none 0 0, .string ⟨#[]⟩]] w4 fun e w' => e = .returned (.bool true) ∧ Below w4.heap.size w4 w' from HSA.out)
    go_wp2_with (first
      | (go_at_call 9; refine HSA.out.mono ?_; rintro e w7 ⟨rfl, hb7⟩; have HB7 := Lib.hid (HB4.out.trans (hb7.mono HB4.out.size)); clear hb7)
      | (go_at_call 10; refine (HLV.out _ HB7.out).mono ?_; rintro e w8 ⟨rfl, hb8⟩))
    go_ret
    exact ⟨rfl, HB7.out.trans (hb8.mono HB7.out.size)⟩
  | ok t =>
    obtain ⟨va, vk, rfl, hn⟩ := hq
    obtain ⟨c1, c2, c3, c4, rfl, rfl⟩ := node_cells hn
    obtain ⟨hmay, hpl⟩ := build_may HM.out.symm
    have hrt : t.rightB = true ∧ t.size ≤ 4096 ∧ t.dep ≤ 64 := by
      unfold Tr.mayB at hmay
      simp only [Bool.and_eq_true, decide_eq_true_eq] at hmay
      exact ⟨hmay.1.1, hmay.1.2, hmay.2⟩
    have hl2 := HL.out
    obtain ⟨htb, htc⟩ := tb_of t hrt.1 (by omega)
    have HT := Lib.hid (show t.mayB = true ∧ t.rightB = true ∧ t.size ≤ 4096 ∧ (prM (tkT t)).length ≤ 12000 ∧ t.tb ∧ t.tc from ⟨hmay, hrt.1, hrt.2.1, by omega, htb, htc⟩)
    have HN := Lib.hid hn
    clear hmay hpl hrt hl2 htb htc hn
    go_upto_region 3 with fail
    obtain ⟨w4, hw4⟩ : ∃ v, v = (w3.alloc (.cells #[.string (str t.n), .slice c1 t.ats.length c2, .slice c3 t.ks.length c4, .string (str t.t)] 26)).alloc (.cells #[.int .i64 0, .int .i64 0, .int .i64 0] 29) := ⟨_, rfl⟩
    rw [← hw4]
    have hbw4 : Below w3.heap.size w3 w4 := by rw [hw4]; exact ((Below.refl _ _).alloc (Nat.le_refl _) _).alloc (by simp) _
    have hMw4 : w4.heap[w3.heap.size]? = some (.cells #[.string (str t.n), .slice c1 t.ats.length c2, .slice c3 t.ks.length c4, .string (str t.t)] 26 (0, 0)) := by
      rw [hw4, Below.heap_alloc _ _ _ (by simp)]
      exact heap_alloc_new w3 _
    have hPw4 : w4.heap[w3.heap.size + 1]? = some (.cells #[.int .i64 0, .int .i64 0, .int .i64 0] 29 (0, 0)) := by
      rw [hw4]
      have := heap_alloc_new (w3.alloc (.cells #[.string (str t.n), .slice c1 t.ats.length c2, .slice c3 t.ks.length c4, .string (str t.t)] 26)) (.cells #[.int .i64 0, .int .i64 0, .int .i64 0] 29 (0, 0))
      simpa using this
    have HB4 := Lib.hid (HB3.out.trans (hbw4.mono HB3.out.size))
    have HB34 := Lib.hid hbw4
    clear hw4 hbw4
    generalize w3.heap.size + 1 = PB at hPw4 ⊢
    generalize w3.heap.size = MB at hMw4 ⊢
    have HMR := Lib.hid (show ∀ v, Below w4.heap.size w4 v → v.heap[MB]? = some (.cells #[.string (str t.n), .slice c1 t.ats.length c2, .slice c3 t.ks.length c4, .string (str t.t)] 26 (0, 0)) from fun v hb => (hb.block MB (Array.getElem?_eq_some_iff.1 hMw4).1).trans hMw4)
    have m0 : w4.cell? ⟨MB, 0, none⟩ = some (.string (str t.n)) := by rw [cell_of_row w4 _ 0 _ _ (0, 0) hMw4]; rfl
    have m1 : w4.cell? ⟨MB, 1, none⟩ = some (.slice c1 t.ats.length c2) := by rw [cell_of_row w4 _ 1 _ _ (0, 0) hMw4]; rfl
    have m2 : w4.cell? ⟨MB, 2, none⟩ = some (.slice c3 t.ks.length c4) := by rw [cell_of_row w4 _ 2 _ _ (0, 0) hMw4]; rfl
    have m3 : w4.cell? ⟨MB, 3, none⟩ = some (.string (str t.t)) := by rw [cell_of_row w4 _ 3 _ _ (0, 0) hMw4]; rfl
    have p0 : w4.cell? ⟨PB, 0, none⟩ = some (.int .i64 0) := by rw [cell_of_row w4 _ 0 _ _ (0, 0) hPw4]; rfl
    have p1 : w4.cell? ⟨PB, 1, none⟩ = some (.int .i64 0) := by rw [cell_of_row w4 _ 1 _ _ (0, 0) hPw4]; rfl
    have p2 : w4.cell? ⟨PB, 2, none⟩ = some (.int .i64 0) := by rw [cell_of_row w4 _ 2 _ _ (0, 0) hPw4]; rfl
    clear hMw4 hPw4
    have HN4 := Lib.hid (HN.out.onto HB34.out (Nat.le_refl _))
    obtain ⟨T, hTk⟩ : ∃ T, T = prM (tkT t) := ⟨_, rfl⟩
    have HPR := Lib.hid (TPrint_any t (.slice c1 t.ats.length c2) (.slice c3 t.ks.length c4) w4 HN4.out (by have h1 := tkT_len t; have h2 := HT.out.2.2.1; omega) (print_ok HT.out.2.1 (by have := HT.out.2.2.2.1; omega)) (by have := HT.out.2.2.2.1; omega))
    rw [← hTk] at HPR
    unfold nodeV at HPR
    have HTK := Lib.hid hTk
    clear hTk
    go_upto_region 5 with fail
    go_wp2_with fail
    refine HPR.out.mono ?_
    rintro e w5 ⟨rfl, hb5⟩
    have HB5 := Lib.hid (HB4.out.trans (hb5.mono HB4.out.size))
    have HB45 := Lib.hid hb5
    have HBL := Lib.hid (show Calls Tryz.prog 7 #[.string (str T)] w5 fun e w' => Below w5.heap.size w5 w' ∧ ∃ va' vk', e = .returned (.tuple #[.agg #[.string (str t.n), va', vk', .string (str t.t)], .int .i64 0, .agg #[.int .i64 0, .int .i64 0, .int .i64 0]]) ∧ NdV w' (allF w') t va' vk' from
      (HBD.out T (by rw [HTK.out]; have := HT.out.2.2.2.1; omega) w5 HB5.out).mono fun e w' h => by
        have hq : buildM T = .ok t := by rw [HTK.out]; exact build_back HT.out.1 (by have := HT.out.2.2.2.1; omega)
        unfold BuildP at h
        rw [hq] at h
        exact h)
    clear hb5 m0 m1 m2 m3 p0 p1 p2 HPR
    go_wp2_with fail
    refine HBL.out.mono ?_
    rintro e w6 ⟨hb6, va', vk', rfl, hn6⟩
    obtain ⟨d1, d2, d3, d4, rfl, rfl⟩ := node_cells hn6
    have HB6 := Lib.hid (HB5.out.trans (hb6.mono HB5.out.size))
    have HB46 := Lib.hid (HB45.out.trans (hb6.mono HB45.out.size))
    have HN6 := Lib.hid hn6
    clear hb6 hn6 HBL
    go_upto_region 6 with fail
    obtain ⟨w8, hw8⟩ : ∃ v, v = (w6.alloc (.cells #[.string (str t.n), .slice d1 t.ats.length d2, .slice d3 t.ks.length d4, .string (str t.t)] 26)).alloc (.cells #[.int .i64 0, .int .i64 0, .int .i64 0] 29) := ⟨_, rfl⟩
    rw [← hw8]
    have hbw8 : Below w6.heap.size w6 w8 := by rw [hw8]; exact ((Below.refl _ _).alloc (Nat.le_refl _) _).alloc (by simp) _
    have hMw8 : w8.heap[w6.heap.size]? = some (.cells #[.string (str t.n), .slice d1 t.ats.length d2, .slice d3 t.ks.length d4, .string (str t.t)] 26 (0, 0)) := by
      rw [hw8, Below.heap_alloc _ _ _ (by simp)]
      exact heap_alloc_new w6 _
    have hPw8 : w8.heap[w6.heap.size + 1]? = some (.cells #[.int .i64 0, .int .i64 0, .int .i64 0] 29 (0, 0)) := by
      rw [hw8]
      have := heap_alloc_new (w6.alloc (.cells #[.string (str t.n), .slice d1 t.ats.length d2, .slice d3 t.ks.length d4, .string (str t.t)] 26)) (.cells #[.int .i64 0, .int .i64 0, .int .i64 0] 29 (0, 0))
      simpa using this
    have HB8 := Lib.hid (HB6.out.trans (hbw8.mono HB6.out.size))
    have HB68 := Lib.hid hbw8
    clear hw8 hbw8
    generalize w6.heap.size + 1 = QB at hPw8 ⊢
    generalize w6.heap.size = NB at hMw8 ⊢
    have HNR := Lib.hid (show ∀ v, Below w8.heap.size w8 v → v.heap[NB]? = some (.cells #[.string (str t.n), .slice d1 t.ats.length d2, .slice d3 t.ks.length d4, .string (str t.t)] 26 (0, 0)) from fun v hb => (hb.block NB (Array.getElem?_eq_some_iff.1 hMw8).1).trans hMw8)
    have n0 : w8.cell? ⟨NB, 0, none⟩ = some (.string (str t.n)) := by rw [cell_of_row w8 _ 0 _ _ (0, 0) hMw8]; rfl
    have n1 : w8.cell? ⟨NB, 1, none⟩ = some (.slice d1 t.ats.length d2) := by rw [cell_of_row w8 _ 1 _ _ (0, 0) hMw8]; rfl
    have n2 : w8.cell? ⟨NB, 2, none⟩ = some (.slice d3 t.ks.length d4) := by rw [cell_of_row w8 _ 2 _ _ (0, 0) hMw8]; rfl
    have n3 : w8.cell? ⟨NB, 3, none⟩ = some (.string (str t.t)) := by rw [cell_of_row w8 _ 3 _ _ (0, 0) hMw8]; rfl
    have r0 : w8.cell? ⟨QB, 0, none⟩ = some (.int .i64 0) := by rw [cell_of_row w8 _ 0 _ _ (0, 0) hPw8]; rfl
    have r1 : w8.cell? ⟨QB, 1, none⟩ = some (.int .i64 0) := by rw [cell_of_row w8 _ 1 _ _ (0, 0) hPw8]; rfl
    have r2 : w8.cell? ⟨QB, 2, none⟩ = some (.int .i64 0) := by rw [cell_of_row w8 _ 2 _ _ (0, 0) hPw8]; rfl
    clear hMw8 hPw8
    have HB48 := Lib.hid (HB46.out.trans (HB68.out.mono HB46.out.size))
    have m0 : w8.cell? ⟨MB, 0, none⟩ = some (.string (str t.n)) := by rw [cell_of_row w8 _ 0 _ _ (0, 0) (HMR.out _ HB48.out)]; rfl
    have m1 : w8.cell? ⟨MB, 1, none⟩ = some (.slice c1 t.ats.length c2) := by rw [cell_of_row w8 _ 1 _ _ (0, 0) (HMR.out _ HB48.out)]; rfl
    have m2 : w8.cell? ⟨MB, 2, none⟩ = some (.slice c3 t.ks.length c4) := by rw [cell_of_row w8 _ 2 _ _ (0, 0) (HMR.out _ HB48.out)]; rfl
    have m3 : w8.cell? ⟨MB, 3, none⟩ = some (.string (str t.t)) := by rw [cell_of_row w8 _ 3 _ _ (0, 0) (HMR.out _ HB48.out)]; rfl
    have HNA := Lib.hid (show ∀ w9, Below w8.heap.size w8 w9 → NdV w9 (allF w9) t (.slice c1 t.ats.length c2) (.slice c3 t.ks.length c4) from fun w9 hb => HN4.out.onto (HB48.out.trans (hb.mono HB48.out.size)) (Nat.le_refl _))
    have HNB := Lib.hid (show ∀ w9, Below w8.heap.size w8 w9 → NdV w9 (allF w9) t (.slice d1 t.ats.length d2) (.slice d3 t.ks.length d4) from fun w9 hb => HN6.out.onto (HB68.out.trans (hb.mono HB68.out.size)) (Nat.le_refl _))
    have HUP := Lib.hid (show ∀ w9, Below w8.heap.size w8 w9 → Below w.heap.size w w9 from fun w9 hb => HB8.out.trans (hb.mono HB8.out.size))
    have H1 := Lib.hid (show Calls Tryz.prog 16 #[.agg #[.string (str t.n), .slice c1 t.ats.length c2, .slice c3 t.ks.length c4, .string (str t.t)]] w8 fun e w' => e = .returned (.bool true) ∧ Below w8.heap.size w8 w' by
      rw [← HT.out.1]; exact refMay_any t _ _ w8 (by have := HT.out.2.2.1; omega) HT.out.2.2.2.2.1 (HNA.out _ (Below.refl _ _)))
    go_wp2_with fail
    refine H1.out.mono ?_
    rintro e w9 ⟨rfl, hb9⟩
    have HB9 := Lib.hid hb9
    have H2 := Lib.hid (show Calls Tryz.prog 15 #[.agg #[.string (str t.n), .slice c1 t.ats.length c2, .slice c3 t.ks.length c4, .string (str t.t)]] w9 fun e w' => e = .returned (.bool true) ∧ Below w9.heap.size w9 w' by
      rw [← HT.out.1]; exact TMay_any t _ _ w9 (HNA.out _ hb9) HT.out.2.2.2.2.1 HT.out.2.2.2.2.2)
    have k0 := (hb9.cell (World.block_lt_of_cell? w8 _ m0)).trans m0
    have k1 := (hb9.cell (World.block_lt_of_cell? w8 _ m1)).trans m1
    have k2 := (hb9.cell (World.block_lt_of_cell? w8 _ m2)).trans m2
    have k3 := (hb9.cell (World.block_lt_of_cell? w8 _ m3)).trans m3
    have q0 := (hb9.cell (World.block_lt_of_cell? w8 _ n0)).trans n0
    have q1 := (hb9.cell (World.block_lt_of_cell? w8 _ n1)).trans n1
    have q2 := (hb9.cell (World.block_lt_of_cell? w8 _ n2)).trans n2
    have q3 := (hb9.cell (World.block_lt_of_cell? w8 _ n3)).trans n3
    clear hb9 m0 m1 m2 m3 n0 n1 n2 n3 r0 r1 r2 H1
    go_wp2_with fail
    refine H2.out.mono ?_
    rintro e w10 ⟨rfl, hb10⟩
    have HB10 := Lib.hid (HB9.out.trans (hb10.mono HB9.out.size))
    have H3 := Lib.hid (refSame_any t t _ _ _ _ w10 (HNA.out _ HB10.out) (HNB.out _ HB10.out))
    rw [eqT_self] at H3
    unfold nodeV at H3
    have m0 := (hb10.cell (World.block_lt_of_cell? w9 _ k0)).trans k0
    have m1 := (hb10.cell (World.block_lt_of_cell? w9 _ k1)).trans k1
    have m2 := (hb10.cell (World.block_lt_of_cell? w9 _ k2)).trans k2
    have m3 := (hb10.cell (World.block_lt_of_cell? w9 _ k3)).trans k3
    have n0 := (hb10.cell (World.block_lt_of_cell? w9 _ q0)).trans q0
    have n1 := (hb10.cell (World.block_lt_of_cell? w9 _ q1)).trans q1
    have n2 := (hb10.cell (World.block_lt_of_cell? w9 _ q2)).trans q2
    have n3 := (hb10.cell (World.block_lt_of_cell? w9 _ q3)).trans q3
    clear hb10 k0 k1 k2 k3 q0 q1 q2 q3 H2
    go_wp2_with (first
      | (go_at_call 9; refine H3.out.mono ?_; rintro e w11 ⟨rfl, hb11⟩; have HB11 := Lib.hid (HB10.out.trans (hb11.mono HB10.out.size)); clear hb11)
      | (go_at_call 10; refine (HLV.out _ (HUP.out _ HB11.out)).mono ?_; rintro e w12 ⟨rfl, hb12⟩))
    go_ret
    exact ⟨rfl, (HUP.out _ HB11.out).trans (hb12.mono (HUP.out _ HB11.out).size)⟩


theorem laid_met_TreeStays (os : Os) : laidMet Tryz.prog Rows.treeStaysRow.laid ((laidWorld #[.string .empty] os).forCall (fun _ _ => 0) ⟨#[], #[.string .empty], []⟩).memory :=
  laidMet_of_run' 8 (by kernel_rfl) (by kernel_rfl)
theorem reads_TreeStays (os : Os) {H : Type} (enc : TypeId × Value → H) : ∃ places, DataW.whole enc Tryz.prog ((laidWorld #[.string .empty] os).forCall (fun _ _ => 0) ⟨#[], #[.string .empty], []⟩).memory Tryz.f5.params.toList Rows.treeStaysSpec.vars false (#[.string .empty] : Array Value).toList 8 = some ([.lit (.string [])], [], places) :=
  ⟨[], by kernel_rfl⟩
set_option maxRecDepth 100000 in
theorem lifted_TreeStays (os : Os) (started : os.Started) (H : Type) (enc : TypeId × Value → H) (F : Stop.Interp) :
    ReturnsInHanded {} Tryz.checked os 5 .any ((OpenSpec.ofChange Rows.treeStaysSpec).preRow enc Tryz.prog Tryz.f5 Rows.treeStaysRow.domain false Rows.treeStaysRow.laid) (((OpenSpec.ofChange Rows.treeStaysSpec).at F).post enc Tryz.prog Tryz.f5 false true false false) := by
  obtain ⟨places, hx⟩ := reads_TreeStays os enc
  refine returnsInHanded_of_row (C := Tryz.checked) (s := OpenSpec.ofChange Rows.treeStaysSpec) own_knob started (by kernel_rfl) Tryz.func5
    (witness_row_at (enc := enc) (C := Tryz.checked) false (laidWorld #[.string .empty] os) #[.string .empty] rfl (by kernel_rfl) (by kernel_rfl) (by kernel_rfl)
      (OpenSpec.preRow_of_cond 8 hx (by kernel_rfl) (fun k hk => by cases hk) (by kernel_rfl) (laid_met_TreeStays os))) ?_
  intro W base args ds gs before hval0 hW _ _ _ hL hsh _
  have hU : Lib.Utf8Tabs 1 2 W :=
    utf8Tabs_of_reads (ρ := Tryz.lays260_ren) { Tryz.lays260 with } ⟨by kernel_rfl, by kernel_rfl, by kernel_rfl, by kernel_rfl, by kernel_rfl, by kernel_rfl, by kernel_rfl⟩ (Lib.laidMet.reads hL (.tail _ (.head _))) (Lib.laidMet.reads hL (.head _))
  have hval : ∀ (j : Nat) t v, Tryz.f5.params[j]? = some t → args[j]? = some v → Value.okWide Tryz.prog W .any base t v := hval0
  have hW' := hW
  obtain ⟨p, q, hA0, hV, rfl, _, _⟩ := hW
  have hA : DataW.TrodAll enc Tryz.prog W 0 (fun _ => true) true Tryz.f5.params.toList args.toList ds p := hA0
  rw [Tryz.params5] at hA hval
  obtain ⟨v0, vs0, d0, ds0, p0, q0, hargs, rfl, rfl, h0, r0⟩ := trodAll_cons hA
  obtain ⟨rfl, rfl, rfl⟩ := trodAll_nil r0
  obtain rfl : args = #[v0] := by cases args; simp_all
  obtain ⟨rfl, rfl⟩ := trodVars_none hV
  obtain ⟨a0, rfl, rfl, rfl, w0⟩ := open_string Tryz.underlying9 (hval 0 9 v0 rfl rfl) h0
  clear hA0 hval0
  refine (walk_TreeStays a0 (by unfold maxLen at w0; exact w0) W  hU).mono fun e W' ⟨he, hb⟩ => ?_
  subst he
  exact ⟨_, rfl, law_post (by kernel_rfl) rfl rfl rfl hW' hb⟩
theorem said_TreeStays : Rows.TreeStaysSaid :=
  OpenClaim.holds_of_cond 5 Tryz.f5 rfl rfl rfl rfl rfl rfl rfl ⟨rfl, rfl, rfl, rfl, rfl⟩ rfl rfl rfl rfl rfl (by kernel_rfl) Tryz.func5 (by kernel_rfl)
    (of_decide_eq_true (by kernel_rfl)) (by unfold Func.isWrapper; first | (rw [if_pos (by decide +kernel)]; kernel_rfl) | (rw [if_neg (by decide +kernel)]; exact ⟨rfl, rfl⟩))
    (fun os started H enc _ F => by rw [OpenClaim.pre_eq_preRow]; exact lifted_TreeStays os started H enc F)
set_option maxRecDepth 100000 in
theorem plain_TreeStays (f : FuncId) (fn : Func) (hf : Tryz.pinned.checked.prog.funcNamed "pomace/pomacelaw03.TreeStays" = some f) (hfn : Tryz.pinned.checked.prog.funcs[f]? = some fn) :
    true = Tryz.pinned.checked.prog.looks [] ∧ ∀ (j : Nat) t, fn.params[j]? = some t → Tryz.pinned.checked.prog.wantsStandIn t = false := by
  obtain rfl : f = 5 := Option.some.inj ((show Tryz.prog.funcNamed "pomace/pomacelaw03.TreeStays" = some 5 by kernel_rfl).symm.trans hf) |>.symm
  obtain rfl : fn = Tryz.f5 := (Option.some.inj (Tryz.func5.symm.trans hfn)).symm
  refine ⟨by kernel_rfl, fun j t ht => ?_⟩
  rw [Tryz.params5] at ht
  have h := Array.mem_of_getElem? ht
  simp only [List.mem_toArray, List.mem_cons, List.not_mem_nil, or_false] at h
  rcases h with rfl
  all_goals first
    | exact (show Tryz.prog.wantsStandIn 9 = false by kernel_rfl)

/-- the statement of TreeStays: its card -/
theorem proved_TreeStays : Rows.TreeStaysCardSaid :=
  Claim7.holds_tied_plain_at .later [] _ _ _ _ said_TreeStays (fun _ h => by cases h) (by kernel_rfl) (fun _ h => by cases h) treeStays_row_tie rfl ⟨rfl, rfl⟩ (by kernel_rfl) rfl plain_TreeStays (by kernel_rfl)
end
end Go.Proofs.YtpbkidmdfibaoaaGreatDoor
