/-
  Layer 4: the contract of the answer's Parts. Own work.
-/
import Derived.Test.YtnghagikchffiaaDoorRefPar6
import Derived.Deep.RegionHeld3
import Derived.Deep.AppendLies
import Derived.Deep.Cut
import Derived.Deep.RegionLaw
import Derived.Deep.CutRange
namespace Go.Proofs.YtnghagikchffiaaDoor
set_option linter.unusedVariables false
set_option linter.unusedSimpArgs false
open Go.RowKit

set_option maxHeartbeats 20000000 in
set_option maxRecDepth 100000 in
theorem refParts_any (s : ByteArray) (hs : s.size ≤ 100000) (w : World) :
    Calls Tryd.prog 46 #[.string s] w fun e w' => ∃ u, e = .returned u ∧ RdR w' u (partsB s.data.toList) ∧ Below w.heap.size w w' := by
  obtain ⟨l, hl⟩ : ∃ l, l = s.data.toList := ⟨_, rfl⟩
  have hlen : l.length = s.size := by rw [hl]; simp
  have HLEN := Lib.hid hlen; clear hlen
  have HL := Lib.hid hl; clear hl
  go_enter Tryd.func46, Tryd.ntmps46
  go_wp2
  go_loopw [3, 4, 6, 7] (fun lv nv dv iv wr => Lo1 w.heap.size (w.heap.size + 1) l lv nv dv iv wr ∧ Below w.heap.size w wr) (fun _ _ _ iv _ => s.size + 1 - (intOf iv).toNat)
  case atStart =>
    exact lo1_zero w
  case round =>
    obtain ⟨⟨k, R, t, h, hk, rfl, rfl, hol, hon, hpc, hRk, htk, hraw, hfin⟩, hbel⟩ := hrel
    have hz := hbel.size
    obtain ⟨al, cl, rfl⟩ := own_slice hol
    obtain ⟨an, cn, rfl⟩ := own_slice hon
    have hN := HLEN.out
    by_cases hend : k ≤ s.size
    · by_cases hlt : k < s.size
      · obtain ⟨c, hc⟩ : ∃ c, l[k]? = some c := ⟨_, List.getElem?_eq_getElem (by omega)⟩
        have hix : ∀ w, _ := bidx s k c (by rw [← HL.out]; exact hc)
        have hcut : isCut c = (((c.toNat : Int) == 46) || ((c.toNat : Int) == 45)) := isCut_eq c
        cases e46 : ((c.toNat : Int) == 46) <;> cases e45 : ((c.toNat : Int) == 45)
        · rw [e46, e45] at hcut
          obtain ⟨c0, c1, c2, cf, cb⟩ := hpc.cells
          have HR := Lib.hid hraw
          have HF := Lib.hid hfin
          have HC := Lib.hid hc
          have HCU := Lib.hid hcut
          have HOL := Lib.hid hol
          have HON := Lib.hid hon
          have HPC := Lib.hid hpc
          clear hraw hfin hc hcut hol hon hpc
          have hkl : (k : Int) < s.size := by omega
          have hkne : ((k : Int) == s.size) = false := by simp; omega
          have hdle := digs_le t
          by_cases ht0 : t.length = 0
          · have hts : (str t).size = 0 := by rw [size_str]; exact ht0
            have hlw := fun w => lower04 c w
            have hdg := fun w => digit04 c w
            have HLW := Lib.hid hlw
            have HDG := Lib.hid hdg
            clear hlw hdg
            go_wp2
            go_quiet (fail)
            go_wp2
            have hcv : ∀ m : Nat, (convert 83 9 (.slice (some ⟨wr.heap.size, 0, none⟩) 1 1)).run Tryd.prog ((wr.drewN m).alloc (.cells #[.int .u8 ((lowB c).toNat : Int)] 5)) = .ok (.string (str [lowB c])) ((wr.drewN m).alloc (.cells #[.int .u8 ((lowB c).toNat : Int)] 5)) := fun m => conv1 (lowB c) (wr.drewN m)
            have hap : str t ++ str [lowB c] = str (t ++ [lowB c]) := by unfold str; apply ByteArray.ext; rw [ByteArray.data_append]; simp
            have hs1 : (str [lowB c]).size = 1 := rfl
            have cf2 := cf 2
            have hno : ¬ (9223372036854775807 < (str t).size + 1) := by omega
            have cfa : ∀ m : Nat, ((wr.drewN m).alloc (.cells #[.int .u8 ((lowB c).toNat : Int)] 5)).frozen? ⟨w.heap.size + 1, 2, none⟩ = false := fun m => (World.frozen?_alloc_old _ _ _ (Nat.ne_of_lt cb)).trans cf2
            have cca : ∀ m : Nat, ((wr.drewN m).alloc (.cells #[.int .u8 ((lowB c).toNat : Int)] 5)).cell? ⟨w.heap.size + 1, 2, none⟩ = some (.string (str t)) := fun m => (((Below.refl _ _).alloc (Nat.le_refl _) _ : Below _ (wr.drewN m) _).cell (p := ⟨w.heap.size + 1, 2, none⟩) cb).trans c2
            go_region_law (first | (go_simp; go_at_call 62; with_reducible refine (HLW.out _).mono ?_; rintro e w' ⟨rfl, rfl⟩))
            all_goals cases hdc : isDg c
            all_goals
              rw [hdc] at HDG
              go_wp2_with (go_at_call 61; with_reducible refine (HDG.out _).mono ?_; rintro e w' ⟨rfl, rfl⟩)
            all_goals exact ⟨lo1_same (by omega) hz HC.out HCU.out HR.out (.inl ht0) hRk htk HOL.out HON.out HPC.out hbel _ _ _ (by rw [hdc]; simp), by simp [intOf]; omega⟩
          · have hk1 : (1 : Int) ≤ k := by omega
            have h1n : ((k : Int) - 1).toNat = k - 1 := by omega
            obtain ⟨d, hd⟩ : ∃ d, l[k - 1]? = some d := ⟨_, List.getElem?_eq_getElem (by omega)⟩
            have hid0 := bidx s (k - 1) d (by rw [← HL.out]; exact hd)
            rw [show ((k - 1 : Nat) : Int) = (k : Int) - 1 by omega] at hid0
            have HD := Lib.hid hd; clear hd
            have hts : 0 < (str t).size := by rw [size_str]; omega
            have htz : (str t).size ≤ 100001 := by rw [size_str]; omega
            have hlw := fun w => lower04 c w
            have dc := fun w => digit04 c w
            have dd := fun w => digit04 d w
            have HLW := Lib.hid hlw; clear hlw
            cases hgc : isDg c <;> cases hgd : isDg d
            all_goals rw [hgc] at dc
            all_goals rw [hgd] at dd
            all_goals have DC := Lib.hid dc
            all_goals have DD := Lib.hid dd
            all_goals clear dc dd
            · go_wp2
              go_quiet (first | (go_at_call 61; with_reducible exact Calls.quiet_of_same (DC.out _)) | (go_at_call 61; with_reducible exact Calls.quiet_of_same (DD.out _)))
              go_wp2
              have hcv : ∀ m : Nat, (convert 83 9 (.slice (some ⟨wr.heap.size, 0, none⟩) 1 1)).run Tryd.prog ((wr.drewN m).alloc (.cells #[.int .u8 ((lowB c).toNat : Int)] 5)) = .ok (.string (str [lowB c])) ((wr.drewN m).alloc (.cells #[.int .u8 ((lowB c).toNat : Int)] 5)) := fun m => conv1 (lowB c) (wr.drewN m)
              have hap : str t ++ str [lowB c] = str (t ++ [lowB c]) := by unfold str; apply ByteArray.ext; rw [ByteArray.data_append]; simp
              have hs1 : (str [lowB c]).size = 1 := rfl
              have cf2 := cf 2
              have hno : ¬ (9223372036854775807 < (str t).size + 1) := by omega
              have cfa : ∀ m : Nat, ((wr.drewN m).alloc (.cells #[.int .u8 ((lowB c).toNat : Int)] 5)).frozen? ⟨w.heap.size + 1, 2, none⟩ = false := fun m => (World.frozen?_alloc_old _ _ _ (Nat.ne_of_lt cb)).trans cf2
              have cca : ∀ m : Nat, ((wr.drewN m).alloc (.cells #[.int .u8 ((lowB c).toNat : Int)] 5)).cell? ⟨w.heap.size + 1, 2, none⟩ = some (.string (str t)) := fun m => (((Below.refl _ _).alloc (Nat.le_refl _) _ : Below _ (wr.drewN m) _).cell (p := ⟨w.heap.size + 1, 2, none⟩) cb).trans c2
              go_region_law (first | (go_simp; go_at_call 62; with_reducible refine (HLW.out _).mono ?_; rintro e w' ⟨rfl, rfl⟩))
              all_goals go_wp2_with (go_at_call 61; with_reducible refine (DC.out _).mono ?_; rintro e w' ⟨rfl, rfl⟩)
              all_goals exact ⟨lo1_same (by omega) hz HC.out HCU.out HR.out (.inr ⟨by omega, by rw [hgc, getD_some HD.out, hgd]⟩) hRk htk HOL.out HON.out HPC.out hbel _ _ _ (by rw [hgc]; simp), by simp [intOf]; omega⟩
            · obtain ⟨wd, hwe⟩ : ∃ wd, wd = !numP t := ⟨_, rfl⟩
              have hwd : decide (digs t < (str t).size) = wd := by
                rw [hwe, size_str, ← raw_word (HR.out (by omega)) (by omega)]
              have HWE := Lib.hid hwe; clear hwe
              go_wp2
              go_quiet (first | (go_at_call 61; with_reducible exact Calls.quiet_of_same (DC.out _)) | (go_at_call 61; with_reducible exact Calls.quiet_of_same (DD.out _)))
              go_upto_region 12 with fail
              have ho1 := Lib.hid (ownsRow_setCell_below (show (wr.drewN nq).ownsRow (w.heap.size + 1 + 1) 73 3 (.slice al R.length cl) R.length (rowW R) from HOL.out) (a := ⟨w.heap.size + 1, 0, none⟩) (by simp) (.bool wd))
              have hpd : Pc w.heap.size (w.heap.size + 1) false h t (wr.drewN nq) := HPC.out
              obtain ⟨hp1, hg1⟩ := hpd.word wd
              have hon1 : (wr.drewN nq).ownsRow w.heap.size 4 1 (.slice an R.length cn) R.length (rowN R) := HON.out
              have hn1 := hon1.kept hg1 (own_apart hon1 hpd (by decide))
              have HP1 := Lib.hid hp1
              have HN1 := Lib.hid hn1
              have HG1 := Lib.hid hg1
              clear hp1 hg1 hpd hon1 hn1
              have hbz1 : w.heap.size + 1 + 1 ≤ ((wr.drewN nq).setCell ⟨w.heap.size + 1, 0, none⟩ (.bool wd)).heap.size := by
                have := (World.ownsRow.lt HP1.out (w.heap.size + 1) rfl).2
                omega
              have hbel1 : Below w.heap.size w ((wr.drewN nq).setCell ⟨w.heap.size + 1, 0, none⟩ (.bool wd)) := (below_drewN hbel nq).setCell (p := ⟨w.heap.size + 1, 0, none⟩) (by simp) _
              obtain ⟨wq, hwq⟩ : ∃ wq, wq = (wr.drewN nq).setCell ⟨w.heap.size + 1, 0, none⟩ (.bool wd) := ⟨_, rfl⟩
              rw [← hwq] at ho1 HP1 HN1 hbz1 hbel1 ⊢
              clear hwq HG1 c0 c1 c2 cf cb
              obtain ⟨c0, c1, c2, cf, cb⟩ := HP1.out.cells
              have HBZ1 := Lib.hid hbz1; clear hbz1
              go_wp2_with (at_builtin
                           refine app3 rfl _ _ 70 73 rfl _ 24 (w.heap.size + 1 + 1) R.length Tryd.underlying70 rt_info rfl _ _ rfl ho1.out rfl rfl rfl rfl (by omega) (by omega) HBZ1.out ?_)
              intro v2 w2 ho2 hg2 hb2
              have hp2 : Pc w.heap.size (w.heap.size + 1) wd h t w2 := World.ownsRow.kept HP1.out hg2 (pc_apart ho1.out)
              have hn2 := HN1.out.kept hg2 (own_apart HN1.out ho1.out (by decide))
              have hbel2 := hbel1.trans (hb2.mono (by omega))
              have hz2 := hbel2.size
              have HO2 := Lib.hid ho2
              have HN2 := Lib.hid hn2
              have HP2 := Lib.hid hp2
              clear ho2 hn2 hp2 c0 c1 c2 cf cb hg2 hb2
              go_wp2_with (at_builtin
                           refine app1 rfl _ _ 93 4 rfl _ 1 w.heap.size R.length Tryd.underlying93 rb_info rfl _ _ rfl HN2.out rfl rfl (by omega) (by omega) hz2 ?_)
              intro v3 w3 hn3 hg3 hb3
              have ho3 := HO2.out.kept hg3 (own_apart HO2.out HN2.out (by decide))
              have hp3 : Pc w.heap.size (w.heap.size + 1) wd h t w3 := World.ownsRow.kept HP2.out hg3 (own_apart HP2.out HN2.out (by decide))
              have hbel3 := hbel2.trans hb3
              obtain ⟨c0, c1, c2, cf, cb⟩ := hp3.cells
              have HO3 := Lib.hid ho3
              have HN3 := Lib.hid hn3
              have HP3 := Lib.hid hp3
              clear ho3 hn3 hp3 hg3 hb3
              go_wp2
              obtain ⟨_, _, hpf, _⟩ := keep_fresh (by omega) HO3.out HN3.out HP3.out hbel3 true
              obtain ⟨wf, hwf⟩ : ∃ wf, wf = fresh w3 (w.heap.size + 1) true := ⟨_, rfl⟩
              have hwf' : wf = ((w3.setCell ⟨w.heap.size + 1, 0, none⟩ (.bool false)).setCell ⟨w.heap.size + 1, 1, none⟩ (.bool true)).setCell ⟨w.heap.size + 1, 2, none⟩ (.string ⟨#[]⟩) := hwf
              rw [← hwf'] 
              rw [← hwf] at hpf
              have HWF := Lib.hid hwf
              clear hwf hwf' c0 c1 c2 cf cb
              obtain ⟨c0, c1, c2, cf, cb⟩ := hpf.cells
              have hcv : (convert 83 9 (.slice (some ⟨wf.heap.size, 0, none⟩) 1 1)).run Tryd.prog (wf.alloc (.cells #[.int .u8 ((lowB c).toNat : Int)] 5)).drew = .ok (.string (str [lowB c])) (wf.alloc (.cells #[.int .u8 ((lowB c).toNat : Int)] 5)).drew := conv1 (lowB c) wf.drew
              have hap : str [] ++ str [lowB c] = str [lowB c] := by unfold str; apply ByteArray.ext; rw [ByteArray.data_append]; simp
              have hs1 : (str [lowB c]).size = 1 := rfl
              have hs0 : (str []).size = 0 := rfl
              have cf2 := cf 2
              have cfa : (wf.alloc (.cells #[.int .u8 ((lowB c).toNat : Int)] 5)).frozen? ⟨w.heap.size + 1, 2, none⟩ = false := (World.frozen?_alloc_old _ _ _ (Nat.ne_of_lt cb)).trans cf2
              have cca : (wf.alloc (.cells #[.int .u8 ((lowB c).toNat : Int)] 5)).cell? ⟨w.heap.size + 1, 2, none⟩ = some (.string (str [])) := (((Below.refl _ _).alloc (Nat.le_refl _) _ : Below _ wf _).cell (p := ⟨w.heap.size + 1, 2, none⟩) cb).trans c2
              go_region_law (first | (go_simp; go_at_call 62; with_reducible refine (HLW.out _).mono ?_; rintro e w' ⟨rfl, rfl⟩))
              all_goals go_wp2_with (go_at_call 61; with_reducible refine (DC.out _).mono ?_; rintro e w' ⟨rfl, rfl⟩)
              all_goals exact ⟨lo1_joint2 HWF.out (by omega) HC.out HD.out (by omega) HCU.out (by omega) (by rw [hgc, hgd]; decide) HR.out HWE.out hRk HO3.out HN3.out HP3.out hbel3 cb _ _ (by rw [hgc]; rfl), by simp [intOf]; omega⟩
            · obtain ⟨wd, hwe⟩ : ∃ wd, wd = !numP t := ⟨_, rfl⟩
              have hwd : decide (digs t < (str t).size) = wd := by
                rw [hwe, size_str, ← raw_word (HR.out (by omega)) (by omega)]
              have HWE := Lib.hid hwe; clear hwe
              go_wp2
              go_quiet (first | (go_at_call 61; with_reducible exact Calls.quiet_of_same (DC.out _)) | (go_at_call 61; with_reducible exact Calls.quiet_of_same (DD.out _)))
              go_upto_region 12 with fail
              have ho1 := Lib.hid (ownsRow_setCell_below (show (wr.drewN nq).ownsRow (w.heap.size + 1 + 1) 73 3 (.slice al R.length cl) R.length (rowW R) from HOL.out) (a := ⟨w.heap.size + 1, 0, none⟩) (by simp) (.bool wd))
              have hpd : Pc w.heap.size (w.heap.size + 1) false h t (wr.drewN nq) := HPC.out
              obtain ⟨hp1, hg1⟩ := hpd.word wd
              have hon1 : (wr.drewN nq).ownsRow w.heap.size 4 1 (.slice an R.length cn) R.length (rowN R) := HON.out
              have hn1 := hon1.kept hg1 (own_apart hon1 hpd (by decide))
              have HP1 := Lib.hid hp1
              have HN1 := Lib.hid hn1
              have HG1 := Lib.hid hg1
              clear hp1 hg1 hpd hon1 hn1
              have hbz1 : w.heap.size + 1 + 1 ≤ ((wr.drewN nq).setCell ⟨w.heap.size + 1, 0, none⟩ (.bool wd)).heap.size := by
                have := (World.ownsRow.lt HP1.out (w.heap.size + 1) rfl).2
                omega
              have hbel1 : Below w.heap.size w ((wr.drewN nq).setCell ⟨w.heap.size + 1, 0, none⟩ (.bool wd)) := (below_drewN hbel nq).setCell (p := ⟨w.heap.size + 1, 0, none⟩) (by simp) _
              obtain ⟨wq, hwq⟩ : ∃ wq, wq = (wr.drewN nq).setCell ⟨w.heap.size + 1, 0, none⟩ (.bool wd) := ⟨_, rfl⟩
              rw [← hwq] at ho1 HP1 HN1 hbz1 hbel1 ⊢
              clear hwq HG1 c0 c1 c2 cf cb
              obtain ⟨c0, c1, c2, cf, cb⟩ := HP1.out.cells
              have HBZ1 := Lib.hid hbz1; clear hbz1
              go_wp2_with (at_builtin
                           refine app3 rfl _ _ 70 73 rfl _ 24 (w.heap.size + 1 + 1) R.length Tryd.underlying70 rt_info rfl _ _ rfl ho1.out rfl rfl rfl rfl (by omega) (by omega) HBZ1.out ?_)
              intro v2 w2 ho2 hg2 hb2
              have hp2 : Pc w.heap.size (w.heap.size + 1) wd h t w2 := World.ownsRow.kept HP1.out hg2 (pc_apart ho1.out)
              have hn2 := HN1.out.kept hg2 (own_apart HN1.out ho1.out (by decide))
              have hbel2 := hbel1.trans (hb2.mono (by omega))
              have hz2 := hbel2.size
              have HO2 := Lib.hid ho2
              have HN2 := Lib.hid hn2
              have HP2 := Lib.hid hp2
              clear ho2 hn2 hp2 c0 c1 c2 cf cb hg2 hb2
              go_wp2_with (at_builtin
                           refine app1 rfl _ _ 93 4 rfl _ 1 w.heap.size R.length Tryd.underlying93 rb_info rfl _ _ rfl HN2.out rfl rfl (by omega) (by omega) hz2 ?_)
              intro v3 w3 hn3 hg3 hb3
              have ho3 := HO2.out.kept hg3 (own_apart HO2.out HN2.out (by decide))
              have hp3 : Pc w.heap.size (w.heap.size + 1) wd h t w3 := World.ownsRow.kept HP2.out hg3 (own_apart HP2.out HN2.out (by decide))
              have hbel3 := hbel2.trans hb3
              obtain ⟨c0, c1, c2, cf, cb⟩ := hp3.cells
              have HO3 := Lib.hid ho3
              have HN3 := Lib.hid hn3
              have HP3 := Lib.hid hp3
              clear ho3 hn3 hp3 hg3 hb3
              go_wp2
              obtain ⟨_, _, hpf, _⟩ := keep_fresh (by omega) HO3.out HN3.out HP3.out hbel3 true
              obtain ⟨wf, hwf⟩ : ∃ wf, wf = fresh w3 (w.heap.size + 1) true := ⟨_, rfl⟩
              have hwf' : wf = ((w3.setCell ⟨w.heap.size + 1, 0, none⟩ (.bool false)).setCell ⟨w.heap.size + 1, 1, none⟩ (.bool true)).setCell ⟨w.heap.size + 1, 2, none⟩ (.string ⟨#[]⟩) := hwf
              rw [← hwf'] 
              rw [← hwf] at hpf
              have HWF := Lib.hid hwf
              clear hwf hwf' c0 c1 c2 cf cb
              obtain ⟨c0, c1, c2, cf, cb⟩ := hpf.cells
              have hcv : (convert 83 9 (.slice (some ⟨wf.heap.size, 0, none⟩) 1 1)).run Tryd.prog (wf.alloc (.cells #[.int .u8 ((lowB c).toNat : Int)] 5)).drew = .ok (.string (str [lowB c])) (wf.alloc (.cells #[.int .u8 ((lowB c).toNat : Int)] 5)).drew := conv1 (lowB c) wf.drew
              have hap : str [] ++ str [lowB c] = str [lowB c] := by unfold str; apply ByteArray.ext; rw [ByteArray.data_append]; simp
              have hs1 : (str [lowB c]).size = 1 := rfl
              have hs0 : (str []).size = 0 := rfl
              have cf2 := cf 2
              have cfa : (wf.alloc (.cells #[.int .u8 ((lowB c).toNat : Int)] 5)).frozen? ⟨w.heap.size + 1, 2, none⟩ = false := (World.frozen?_alloc_old _ _ _ (Nat.ne_of_lt cb)).trans cf2
              have cca : (wf.alloc (.cells #[.int .u8 ((lowB c).toNat : Int)] 5)).cell? ⟨w.heap.size + 1, 2, none⟩ = some (.string (str [])) := (((Below.refl _ _).alloc (Nat.le_refl _) _ : Below _ wf _).cell (p := ⟨w.heap.size + 1, 2, none⟩) cb).trans c2
              go_region_law (first | (go_simp; go_at_call 62; with_reducible refine (HLW.out _).mono ?_; rintro e w' ⟨rfl, rfl⟩))
              all_goals go_wp2_with (go_at_call 61; with_reducible refine (DC.out _).mono ?_; rintro e w' ⟨rfl, rfl⟩)
              all_goals exact ⟨lo1_joint2 HWF.out (by omega) HC.out HD.out (by omega) HCU.out (by omega) (by rw [hgc, hgd]; decide) HR.out HWE.out hRk HO3.out HN3.out HP3.out hbel3 cb _ _ (by rw [hgc]; rfl), by simp [intOf]; omega⟩
            · go_wp2
              go_quiet (first | (go_at_call 61; with_reducible exact Calls.quiet_of_same (DC.out _)) | (go_at_call 61; with_reducible exact Calls.quiet_of_same (DD.out _)))
              go_wp2
              have hcv : ∀ m : Nat, (convert 83 9 (.slice (some ⟨wr.heap.size, 0, none⟩) 1 1)).run Tryd.prog ((wr.drewN m).alloc (.cells #[.int .u8 ((lowB c).toNat : Int)] 5)) = .ok (.string (str [lowB c])) ((wr.drewN m).alloc (.cells #[.int .u8 ((lowB c).toNat : Int)] 5)) := fun m => conv1 (lowB c) (wr.drewN m)
              have hap : str t ++ str [lowB c] = str (t ++ [lowB c]) := by unfold str; apply ByteArray.ext; rw [ByteArray.data_append]; simp
              have hs1 : (str [lowB c]).size = 1 := rfl
              have cf2 := cf 2
              have hno : ¬ (9223372036854775807 < (str t).size + 1) := by omega
              have cfa : ∀ m : Nat, ((wr.drewN m).alloc (.cells #[.int .u8 ((lowB c).toNat : Int)] 5)).frozen? ⟨w.heap.size + 1, 2, none⟩ = false := fun m => (World.frozen?_alloc_old _ _ _ (Nat.ne_of_lt cb)).trans cf2
              have cca : ∀ m : Nat, ((wr.drewN m).alloc (.cells #[.int .u8 ((lowB c).toNat : Int)] 5)).cell? ⟨w.heap.size + 1, 2, none⟩ = some (.string (str t)) := fun m => (((Below.refl _ _).alloc (Nat.le_refl _) _ : Below _ (wr.drewN m) _).cell (p := ⟨w.heap.size + 1, 2, none⟩) cb).trans c2
              go_region_law (first | (go_simp; go_at_call 62; with_reducible refine (HLW.out _).mono ?_; rintro e w' ⟨rfl, rfl⟩))
              all_goals go_wp2_with (go_at_call 61; with_reducible refine (DC.out _).mono ?_; rintro e w' ⟨rfl, rfl⟩)
              all_goals exact ⟨lo1_same (by omega) hz HC.out HCU.out HR.out (.inr ⟨by omega, by rw [hgc, getD_some HD.out, hgd]⟩) hRk htk HOL.out HON.out HPC.out hbel _ _ _ (by rw [hgc]; simp), by simp [intOf]; omega⟩
        · clear_value *
          as_aux_lemma =>
            obtain ⟨c0, c1, c2, cf, cb⟩ := hpc.cells
            have hcut2 : isCut c = true := by rw [hcut]; rw [e46, e45]; rfl
            have h45 : true = (c == 45) := by rw [is45, e45]
            have HC := Lib.hid hc
            have HCU := Lib.hid hcut2
            have H45 := Lib.hid h45
            have hkl : (k : Int) < s.size := by omega
            have hkne : ((k : Int) == s.size) = false := by simp; omega
            clear hc hcut hcut2 h45
            obtain ⟨wd, hwe⟩ : ∃ wd, wd = !numP t := ⟨_, rfl⟩
            have hwd : decide (digs t < (str t).size) = wd := by
              rw [hwe, size_str, ← raw_word (hraw (by omega)) (by omega)]
            have HWE := Lib.hid hwe; clear hwe
            have HR := Lib.hid hraw
            have HF := Lib.hid hfin
            have HOL := Lib.hid hol
            have HON := Lib.hid hon
            have HPC := Lib.hid hpc
            clear hraw hfin hol hon hpc
            go_wp2
            go_quiet (fail)
            go_upto_region 12 with fail
            have ho1 := Lib.hid (ownsRow_setCell_below (show (wr.drewN nq).ownsRow (w.heap.size + 1 + 1) 73 3 (.slice al R.length cl) R.length (rowW R) from HOL.out) (a := ⟨w.heap.size + 1, 0, none⟩) (by simp) (.bool wd))
            have hpd : Pc w.heap.size (w.heap.size + 1) false h t (wr.drewN nq) := HPC.out
            obtain ⟨hp1, hg1⟩ := hpd.word wd
            have hon1 : (wr.drewN nq).ownsRow w.heap.size 4 1 (.slice an R.length cn) R.length (rowN R) := HON.out
            have hn1 := hon1.kept hg1 (own_apart hon1 hpd (by decide))
            have HP1 := Lib.hid hp1
            have HN1 := Lib.hid hn1
            have HG1 := Lib.hid hg1
            clear hp1 hg1 hpd hon1 hn1
            have hbz1 : w.heap.size + 1 + 1 ≤ ((wr.drewN nq).setCell ⟨w.heap.size + 1, 0, none⟩ (.bool wd)).heap.size := by
              have := (World.ownsRow.lt HP1.out (w.heap.size + 1) rfl).2
              omega
            have hbel1 : Below w.heap.size w ((wr.drewN nq).setCell ⟨w.heap.size + 1, 0, none⟩ (.bool wd)) := (below_drewN hbel nq).setCell (p := ⟨w.heap.size + 1, 0, none⟩) (by simp) _
            obtain ⟨wq, hwq⟩ : ∃ wq, wq = (wr.drewN nq).setCell ⟨w.heap.size + 1, 0, none⟩ (.bool wd) := ⟨_, rfl⟩
            rw [← hwq] at ho1 HP1 HN1 hbz1 hbel1 ⊢
            clear hwq HG1 c0 c1 c2 cf cb
            obtain ⟨c0, c1, c2, cf, cb⟩ := HP1.out.cells
            have HBZ1 := Lib.hid hbz1; clear hbz1
            go_wp2_with (at_builtin
                         refine app3 rfl _ _ 70 73 rfl _ 24 (w.heap.size + 1 + 1) R.length Tryd.underlying70 rt_info rfl _ _ rfl ho1.out rfl rfl rfl rfl (by omega) (by omega) HBZ1.out ?_)
            intro v2 w2 ho2 hg2 hb2
            have hp2 : Pc w.heap.size (w.heap.size + 1) wd h t w2 := World.ownsRow.kept HP1.out hg2 (pc_apart ho1.out)
            have hn2 := HN1.out.kept hg2 (own_apart HN1.out ho1.out (by decide))
            have hbel2 := hbel1.trans (hb2.mono (by omega))
            have hz2 := hbel2.size
            have HO2 := Lib.hid ho2
            have HN2 := Lib.hid hn2
            have HP2 := Lib.hid hp2
            clear ho2 hn2 hp2 c0 c1 c2 cf cb hg2 hb2
            go_wp2_with (at_builtin
                         refine app1 rfl _ _ 93 4 rfl _ 1 w.heap.size R.length Tryd.underlying93 rb_info rfl _ _ rfl HN2.out rfl rfl (by omega) (by omega) hz2 ?_)
            intro v3 w3 hn3 hg3 hb3
            have ho3 := HO2.out.kept hg3 (own_apart HO2.out HN2.out (by decide))
            have hp3 : Pc w.heap.size (w.heap.size + 1) wd h t w3 := World.ownsRow.kept HP2.out hg3 (own_apart HP2.out HN2.out (by decide))
            have hbel3 := hbel2.trans hb3
            obtain ⟨c0, c1, c2, cf, cb⟩ := hp3.cells
            have HO3 := Lib.hid ho3
            have HN3 := Lib.hid hn3
            have HP3 := Lib.hid hp3
            clear ho3 hn3 hp3 hg3 hb3
            go_wp2
            exact ⟨lo1_cut (by omega) HC.out HCU.out H45.out HR.out HWE.out hRk HO3.out HN3.out HP3.out hbel3, by simp [intOf]; omega⟩
        · clear_value *
          as_aux_lemma =>
            obtain ⟨c0, c1, c2, cf, cb⟩ := hpc.cells
            have hcut2 : isCut c = true := by rw [hcut]; rw [e46, e45]; rfl
            have h45 : false = (c == 45) := by rw [is45, e45]
            have HC := Lib.hid hc
            have HCU := Lib.hid hcut2
            have H45 := Lib.hid h45
            have hkl : (k : Int) < s.size := by omega
            have hkne : ((k : Int) == s.size) = false := by simp; omega
            clear hc hcut hcut2 h45
            obtain ⟨wd, hwe⟩ : ∃ wd, wd = !numP t := ⟨_, rfl⟩
            have hwd : decide (digs t < (str t).size) = wd := by
              rw [hwe, size_str, ← raw_word (hraw (by omega)) (by omega)]
            have HWE := Lib.hid hwe; clear hwe
            have HR := Lib.hid hraw
            have HF := Lib.hid hfin
            have HOL := Lib.hid hol
            have HON := Lib.hid hon
            have HPC := Lib.hid hpc
            clear hraw hfin hol hon hpc
            go_wp2
            go_quiet (fail)
            go_upto_region 12 with fail
            have ho1 := Lib.hid (ownsRow_setCell_below (show (wr.drewN nq).ownsRow (w.heap.size + 1 + 1) 73 3 (.slice al R.length cl) R.length (rowW R) from HOL.out) (a := ⟨w.heap.size + 1, 0, none⟩) (by simp) (.bool wd))
            have hpd : Pc w.heap.size (w.heap.size + 1) false h t (wr.drewN nq) := HPC.out
            obtain ⟨hp1, hg1⟩ := hpd.word wd
            have hon1 : (wr.drewN nq).ownsRow w.heap.size 4 1 (.slice an R.length cn) R.length (rowN R) := HON.out
            have hn1 := hon1.kept hg1 (own_apart hon1 hpd (by decide))
            have HP1 := Lib.hid hp1
            have HN1 := Lib.hid hn1
            have HG1 := Lib.hid hg1
            clear hp1 hg1 hpd hon1 hn1
            have hbz1 : w.heap.size + 1 + 1 ≤ ((wr.drewN nq).setCell ⟨w.heap.size + 1, 0, none⟩ (.bool wd)).heap.size := by
              have := (World.ownsRow.lt HP1.out (w.heap.size + 1) rfl).2
              omega
            have hbel1 : Below w.heap.size w ((wr.drewN nq).setCell ⟨w.heap.size + 1, 0, none⟩ (.bool wd)) := (below_drewN hbel nq).setCell (p := ⟨w.heap.size + 1, 0, none⟩) (by simp) _
            obtain ⟨wq, hwq⟩ : ∃ wq, wq = (wr.drewN nq).setCell ⟨w.heap.size + 1, 0, none⟩ (.bool wd) := ⟨_, rfl⟩
            rw [← hwq] at ho1 HP1 HN1 hbz1 hbel1 ⊢
            clear hwq HG1 c0 c1 c2 cf cb
            obtain ⟨c0, c1, c2, cf, cb⟩ := HP1.out.cells
            have HBZ1 := Lib.hid hbz1; clear hbz1
            go_wp2_with (at_builtin
                         refine app3 rfl _ _ 70 73 rfl _ 24 (w.heap.size + 1 + 1) R.length Tryd.underlying70 rt_info rfl _ _ rfl ho1.out rfl rfl rfl rfl (by omega) (by omega) HBZ1.out ?_)
            intro v2 w2 ho2 hg2 hb2
            have hp2 : Pc w.heap.size (w.heap.size + 1) wd h t w2 := World.ownsRow.kept HP1.out hg2 (pc_apart ho1.out)
            have hn2 := HN1.out.kept hg2 (own_apart HN1.out ho1.out (by decide))
            have hbel2 := hbel1.trans (hb2.mono (by omega))
            have hz2 := hbel2.size
            have HO2 := Lib.hid ho2
            have HN2 := Lib.hid hn2
            have HP2 := Lib.hid hp2
            clear ho2 hn2 hp2 c0 c1 c2 cf cb hg2 hb2
            go_wp2_with (at_builtin
                         refine app1 rfl _ _ 93 4 rfl _ 1 w.heap.size R.length Tryd.underlying93 rb_info rfl _ _ rfl HN2.out rfl rfl (by omega) (by omega) hz2 ?_)
            intro v3 w3 hn3 hg3 hb3
            have ho3 := HO2.out.kept hg3 (own_apart HO2.out HN2.out (by decide))
            have hp3 : Pc w.heap.size (w.heap.size + 1) wd h t w3 := World.ownsRow.kept HP2.out hg3 (own_apart HP2.out HN2.out (by decide))
            have hbel3 := hbel2.trans hb3
            obtain ⟨c0, c1, c2, cf, cb⟩ := hp3.cells
            have HO3 := Lib.hid ho3
            have HN3 := Lib.hid hn3
            have HP3 := Lib.hid hp3
            clear ho3 hn3 hp3 hg3 hb3
            go_wp2
            exact ⟨lo1_cut (by omega) HC.out HCU.out H45.out HR.out HWE.out hRk HO3.out HN3.out HP3.out hbel3, by simp [intOf]; omega⟩
        · exfalso
          simp only [beq_iff_eq] at e46 e45
          omega
      · clear_value *
        as_aux_lemma =>
          have hke : k = s.size := by omega
          obtain ⟨c0, c1, c2, cf, cb⟩ := hpc.cells
          obtain ⟨wd, hwe⟩ : ∃ wd, wd = !numP t := ⟨_, rfl⟩
          have hwd : decide (digs t < (str t).size) = wd := by
            rw [hwe, size_str, ← raw_word (hraw (by omega)) (by omega)]
          have HWE := Lib.hid hwe; clear hwe
          have HR := Lib.hid hraw
          have HF := Lib.hid hfin
          have HOL := Lib.hid hol
          have HON := Lib.hid hon
          have HPC := Lib.hid hpc
          clear hraw hfin hol hon hpc
          have hkeq : ((k : Int) == s.size) = true := by simp; omega
          have hkI : (k : Int) = s.size := by omega
          have HKE := Lib.hid hke
          clear hke hlt
          go_wp2
          go_quiet (fail)
          go_upto_region 12 with fail
          have ho1 := Lib.hid (ownsRow_setCell_below (show (wr.drewN nq).ownsRow (w.heap.size + 1 + 1) 73 3 (.slice al R.length cl) R.length (rowW R) from HOL.out) (a := ⟨w.heap.size + 1, 0, none⟩) (by simp) (.bool wd))
          have hpd : Pc w.heap.size (w.heap.size + 1) false h t (wr.drewN nq) := HPC.out
          obtain ⟨hp1, hg1⟩ := hpd.word wd
          have hon1 : (wr.drewN nq).ownsRow w.heap.size 4 1 (.slice an R.length cn) R.length (rowN R) := HON.out
          have hn1 := hon1.kept hg1 (own_apart hon1 hpd (by decide))
          have HP1 := Lib.hid hp1
          have HN1 := Lib.hid hn1
          have HG1 := Lib.hid hg1
          clear hp1 hg1 hpd hon1 hn1
          have hbz1 : w.heap.size + 1 + 1 ≤ ((wr.drewN nq).setCell ⟨w.heap.size + 1, 0, none⟩ (.bool wd)).heap.size := by
            have := (World.ownsRow.lt HP1.out (w.heap.size + 1) rfl).2
            omega
          have hbel1 : Below w.heap.size w ((wr.drewN nq).setCell ⟨w.heap.size + 1, 0, none⟩ (.bool wd)) := (below_drewN hbel nq).setCell (p := ⟨w.heap.size + 1, 0, none⟩) (by simp) _
          obtain ⟨wq, hwq⟩ : ∃ wq, wq = (wr.drewN nq).setCell ⟨w.heap.size + 1, 0, none⟩ (.bool wd) := ⟨_, rfl⟩
          rw [← hwq] at ho1 HP1 HN1 hbz1 hbel1 ⊢
          clear hwq HG1 c0 c1 c2 cf cb
          obtain ⟨c0, c1, c2, cf, cb⟩ := HP1.out.cells
          have HBZ1 := Lib.hid hbz1; clear hbz1
          go_wp2_with (at_builtin
                       refine app3 rfl _ _ 70 73 rfl _ 24 (w.heap.size + 1 + 1) R.length Tryd.underlying70 rt_info rfl _ _ rfl ho1.out rfl rfl rfl rfl (by omega) (by omega) HBZ1.out ?_)
          intro v2 w2 ho2 hg2 hb2
          have hp2 : Pc w.heap.size (w.heap.size + 1) wd h t w2 := World.ownsRow.kept HP1.out hg2 (pc_apart ho1.out)
          have hn2 := HN1.out.kept hg2 (own_apart HN1.out ho1.out (by decide))
          have hbel2 := hbel1.trans (hb2.mono (by omega))
          have hz2 := hbel2.size
          have HO2 := Lib.hid ho2
          have HN2 := Lib.hid hn2
          have HP2 := Lib.hid hp2
          clear ho2 hn2 hp2 c0 c1 c2 cf cb hg2 hb2
          go_wp2_with (at_builtin
                       refine app1 rfl _ _ 93 4 rfl _ 1 w.heap.size R.length Tryd.underlying93 rb_info rfl _ _ rfl HN2.out rfl rfl (by omega) (by omega) hz2 ?_)
          intro v3 w3 hn3 hg3 hb3
          have ho3 := HO2.out.kept hg3 (own_apart HO2.out HN2.out (by decide))
          have hp3 : Pc w.heap.size (w.heap.size + 1) wd h t w3 := World.ownsRow.kept HP2.out hg3 (own_apart HP2.out HN2.out (by decide))
          have hbel3 := hbel2.trans hb3
          obtain ⟨c0, c1, c2, cf, cb⟩ := hp3.cells
          have HO3 := Lib.hid ho3
          have HN3 := Lib.hid hn3
          have HP3 := Lib.hid hp3
          clear ho3 hn3 hp3 hg3 hb3
          go_wp2
          exact ⟨by rw [← hkI]; exact lo1_end (by omega) (by rw [HLEN.out]; exact HKE.out) HR.out HWE.out hRk HO3.out HN3.out HP3.out hbel3, by simp [intOf]; omega⟩
    · have hke : k = l.length + 1 := by omega
      have hP := Lib.hid (hfin hke)
      have hkl : ((s.size : Int)) < k := by omega
      have hRs : R.length ≤ 100001 := by omega
      clear hfin hraw htk hRk hk hpc hke
      have HOL := Lib.hid hol
      have HON := Lib.hid hon
      clear hol hon
      go_wp2
      go_loopw [110] (fun kv wr => Lo2 w.heap.size (w.heap.size + 1) R (.slice al R.length cl) (.slice an R.length cn) kv wr ∧ Below w.heap.size w wr) (fun kv _ => R.length - (intOf kv).toNat)
      case atStart => exact ⟨lo2_zero HOL.out HON.out, hbel⟩
      case round =>
        clear HOL HON hbel hz hkl hend
        obtain ⟨⟨k2, hk2, rfl, ho, hn⟩, hb2⟩ := hrel
        have hz2 := hb2.size
        by_cases hlt : k2 < R.length
        · obtain ⟨r, hr⟩ : ∃ r, R[k2]? = some r := ⟨_, List.getElem?_eq_getElem hlt⟩
          obtain ⟨g, cap, hv, hg1, hg2⟩ := ho.form (by omega)
          injection hv with hv1 hv2 hv3
          subst hv1 hv3
          obtain ⟨gn, capn, hvn, hgn1, hgn2⟩ := hn.form (by omega)
          injection hvn with hvn1 hvn2 hvn3
          subst hvn1 hvn3
          clear hv2 hvn2
          have hRc := own_le ho
          have hRcn := own_le hn
          obtain ⟨c0, c1, c2⟩ := ownT_cells ho (mixR_at hr)
          have cf := World.ownsRow.frozenAt ho (k2 * 3 + 2)
          have hlI : (k2 : Int) < R.length := by omega
          have HR2 := Lib.hid hr
          cases hnu : numP r.tx
          · clear_value *
            as_aux_lemma =>
              have hnu2 := hnu
              have HNU := Lib.hid hnu2
              have c0' : wr.cell? ⟨g, k2 * 3, none⟩ = some (.bool true) := by rw [c0]; simp [rawR, hnu]
              have cn0 : wr.cell? ⟨gn, k2, none⟩ = some (.bool r.near) := by rw [World.ownsRow.cellAt hn k2 (by omega)]; simp [rowN, hr]
              have c2' : wr.cell? ⟨g, k2 * 3 + 2, none⟩ = some (.string (str r.tx)) := c2
              have HO := Lib.hid ho
              have HN2 := Lib.hid hn
              clear c0 c1 c2 ho hn hr hnu hnu2
              have HND := Lib.hid (show ∀ x : ByteArray, x.toList = wordP r.tx r.near → _ from fun x hx => lo2_word (Nat.le_succ _) HR2.out HNU.out HO.out HN2.out hb2 x hx)
              obtain ⟨sx, hsx⟩ : ∃ sx, sx = str r.tx := ⟨_, rfl⟩
              have htl : r.tx = sx.toList := by rw [hsx, tl_str]
              rw [← hsx] at c2'
              obtain ⟨nr, hnr⟩ : ∃ nr, nr = r.near := ⟨_, rfl⟩
              rw [← hnr] at cn0
              have HW5 := Lib.hid (show ∀ x : ByteArray, x.toList = wS nr [109] [109, 105, 108, 101, 115, 116, 111, 110, 101] (wS nr [98] [98, 101, 116, 97] (wS nr [97] [97, 108, 112, 104, 97] (wS2 (wS1 sx.toList)))) → x.toList = wordP r.tx r.near from fun x hx => by rw [htl, ← hnr, wordP_stages]; exact hx)
              clear hsx htl hnr
              obtain ⟨bb, hbb⟩ : ∃ bb : Bool, bb = decide (sx.toList = [103, 97] ∨ sx.toList = [102, 105, 110, 97, 108] ∨ sx.toList = [114, 101, 108, 101, 97, 115, 101]) := ⟨_, rfl⟩
              have HBB := Lib.hid hbb
              clear hbb
              go_upto_region 27 with fail
              go_cut [11, 159] from 145 to 191 (fun t b wx => t = .string sx ∧ b = .bool bb ∧ wx = wr)
              case first =>
                by_cases h0 : sx.toList = [103, 97]
                · have e0 : (sx.toList == [103, 97]) = true := by rw [h0]; rfl
                  have H0 := Lib.hid h0
                  clear h0
                  go_wp2_with fail
                  go_meet
                  exact ⟨rfl, congrArg Value.bool (by rw [HBB.out]; exact (decide_eq_true (.inl H0.out)).symm), rfl⟩
                have e0 : (sx.toList == [103, 97]) = false := by rw [beq_eq_false_iff_ne]; exact h0
                have H0 := Lib.hid h0
                clear h0
                by_cases h1 : sx.toList = [102, 105, 110, 97, 108]
                · have e1 : (sx.toList == [102, 105, 110, 97, 108]) = true := by rw [h1]; rfl
                  have H1 := Lib.hid h1
                  clear h1
                  go_wp2_with fail
                  go_meet
                  exact ⟨rfl, congrArg Value.bool (by rw [HBB.out]; exact (decide_eq_true (.inr (.inl H1.out))).symm), rfl⟩
                have e1 : (sx.toList == [102, 105, 110, 97, 108]) = false := by rw [beq_eq_false_iff_ne]; exact h1
                have H1 := Lib.hid h1
                clear h1
                by_cases h2 : sx.toList = [114, 101, 108, 101, 97, 115, 101]
                · have e2 : (sx.toList == [114, 101, 108, 101, 97, 115, 101]) = true := by rw [h2]; rfl
                  have H2 := Lib.hid h2
                  clear h2
                  go_wp2_with fail
                  go_meet
                  exact ⟨rfl, congrArg Value.bool (by rw [HBB.out]; exact (decide_eq_true (.inr (.inr H2.out))).symm), rfl⟩
                have e2 : (sx.toList == [114, 101, 108, 101, 97, 115, 101]) = false := by rw [beq_eq_false_iff_ne]; exact h2
                have H2 := Lib.hid h2
                clear h2
                go_wp2_with fail
                go_meet
                exact ⟨rfl, congrArg Value.bool (by rw [HBB.out]; exact (decide_eq_false (fun h => h.elim H0.out (fun h => h.elim H1.out H2.out))).symm), rfl⟩
              case rest =>
                obtain ⟨rfl, rfl, rfl⟩ := hcut
                go_upto_if 159 with fail
                go_cut [11] from 145 to 191 (fun t wx => ∃ x, t = .string x ∧ x.toList = wS1 sx.toList ∧ wx = wc)
                case first =>
                  cases bb
                  · go_wp2_with fail
                    go_meet
                    exact ⟨_, rfl, by unfold wS1; rw [if_neg (of_decide_eq_false HBB.out.symm)], rfl⟩
                  · go_wp2_with fail
                    go_meet
                    exact ⟨_, rfl, by unfold wS1; rw [if_pos (of_decide_eq_true HBB.out.symm)]; exact tl_lit _, rfl⟩
                case rest =>
                  clear HBB bb
                  obtain ⟨x1, rfl, hx1, rfl⟩ := hcut
                  have HX1 := Lib.hid hx1
                  clear hx1
                  obtain ⟨bb, hbb⟩ : ∃ bb : Bool, bb = decide (x1.toList = [99, 114]) := ⟨_, rfl⟩
                  have HBB := Lib.hid hbb
                  clear hbb
                  go_upto_region 29 with fail
                  go_cut [11, 161] from 145 to 191 (fun t b wx => t = .string x1 ∧ b = .bool bb ∧ wx = wc)
                  case first =>
                    by_cases h4 : x1.toList = [99, 114]
                    · have e4 : (x1.toList == [99, 114]) = true := by rw [h4]; rfl
                      have H4 := Lib.hid h4
                      clear h4
                      go_wp2_with fail
                      go_meet
                      exact ⟨rfl, congrArg Value.bool (by rw [HBB.out]; exact (decide_eq_true H4.out).symm), rfl⟩
                    · have e4 : (x1.toList == [99, 114]) = false := by rw [beq_eq_false_iff_ne]; exact h4
                      have H4 := Lib.hid h4
                      clear h4
                      go_wp2_with fail
                      go_meet
                      exact ⟨rfl, congrArg Value.bool (by rw [HBB.out]; exact (decide_eq_false H4.out).symm), rfl⟩
                  case rest =>
                    obtain ⟨rfl, rfl, rfl⟩ := hcut
                    go_upto_if 161 with fail
                    go_cut [11] from 145 to 191 (fun t wx => ∃ x, t = .string x ∧ x.toList = wS2 (wS1 sx.toList) ∧ wx = wc)
                    case first =>
                      cases bb
                      · go_wp2_with fail
                        go_meet
                        exact ⟨_, rfl, by rw [← HX1.out]; unfold wS2; rw [if_neg (of_decide_eq_false HBB.out.symm)], rfl⟩
                      · go_wp2_with fail
                        go_meet
                        exact ⟨_, rfl, by rw [← HX1.out]; unfold wS2; rw [if_pos (of_decide_eq_true HBB.out.symm)]; exact tl_lit _, rfl⟩
                    case rest =>
                      clear HBB bb
                      obtain ⟨x2, rfl, hx2, rfl⟩ := hcut
                      have HX2 := Lib.hid hx2
                      clear hx2
                      obtain ⟨bb, hbb⟩ : ∃ bb : Bool, bb = decide (nr = true ∧ x2.toList = [97]) := ⟨_, rfl⟩
                      have HBB := Lib.hid hbb
                      clear hbb
                      go_upto_region 31 with fail
                      go_cut [11, 169] from 145 to 191 (fun t b wx => t = .string x2 ∧ b = .bool bb ∧ wx = wc)
                      case first =>
                        cases nr
                        · go_wp2_with fail
                          go_meet
                          exact ⟨rfl, congrArg Value.bool (by rw [HBB.out]; exact (decide_eq_false (fun h => by cases h.1)).symm), rfl⟩
                        · by_cases h4 : x2.toList = [97]
                          · have e4 : (x2.toList == [97]) = true := by rw [h4]; rfl
                            have H4 := Lib.hid h4
                            clear h4
                            go_wp2_with fail
                            go_meet
                            exact ⟨rfl, congrArg Value.bool (by rw [HBB.out]; exact (decide_eq_true ⟨by first | rfl | trivial, H4.out⟩).symm), rfl⟩
                          · have e4 : (x2.toList == [97]) = false := by rw [beq_eq_false_iff_ne]; exact h4
                            have H4 := Lib.hid h4
                            clear h4
                            go_wp2_with fail
                            go_meet
                            exact ⟨rfl, congrArg Value.bool (by rw [HBB.out]; exact (decide_eq_false (fun h => H4.out h.2)).symm), rfl⟩
                      case rest =>
                        obtain ⟨rfl, rfl, rfl⟩ := hcut
                        go_upto_if 169 with fail
                        go_cut [11] from 145 to 191 (fun t wx => ∃ x, t = .string x ∧ x.toList = wS nr [97] [97, 108, 112, 104, 97] (wS2 (wS1 sx.toList)) ∧ wx = wc)
                        case first =>
                          cases bb
                          · go_wp2_with fail
                            go_meet
                            exact ⟨_, rfl, by rw [← HX2.out]; unfold wS; rw [if_neg (of_decide_eq_false HBB.out.symm)], rfl⟩
                          · go_wp2_with fail
                            go_meet
                            exact ⟨_, rfl, by rw [← HX2.out]; unfold wS; rw [if_pos (of_decide_eq_true HBB.out.symm)]; exact tl_lit _, rfl⟩
                        case rest =>
                          clear HBB bb
                          obtain ⟨x3, rfl, hx3, rfl⟩ := hcut
                          have HX3 := Lib.hid hx3
                          clear hx3
                          obtain ⟨bb, hbb⟩ : ∃ bb : Bool, bb = decide (nr = true ∧ x3.toList = [98]) := ⟨_, rfl⟩
                          have HBB := Lib.hid hbb
                          clear hbb
                          go_upto_region 33 with fail
                          go_cut [11, 177] from 145 to 191 (fun t b wx => t = .string x3 ∧ b = .bool bb ∧ wx = wc)
                          case first =>
                            cases nr
                            · go_wp2_with fail
                              go_meet
                              exact ⟨rfl, congrArg Value.bool (by rw [HBB.out]; exact (decide_eq_false (fun h => by cases h.1)).symm), rfl⟩
                            · by_cases h4 : x3.toList = [98]
                              · have e4 : (x3.toList == [98]) = true := by rw [h4]; rfl
                                have H4 := Lib.hid h4
                                clear h4
                                go_wp2_with fail
                                go_meet
                                exact ⟨rfl, congrArg Value.bool (by rw [HBB.out]; exact (decide_eq_true ⟨by first | rfl | trivial, H4.out⟩).symm), rfl⟩
                              · have e4 : (x3.toList == [98]) = false := by rw [beq_eq_false_iff_ne]; exact h4
                                have H4 := Lib.hid h4
                                clear h4
                                go_wp2_with fail
                                go_meet
                                exact ⟨rfl, congrArg Value.bool (by rw [HBB.out]; exact (decide_eq_false (fun h => H4.out h.2)).symm), rfl⟩
                          case rest =>
                            obtain ⟨rfl, rfl, rfl⟩ := hcut
                            go_upto_if 177 with fail
                            go_cut [11] from 145 to 191 (fun t wx => ∃ x, t = .string x ∧ x.toList = wS nr [98] [98, 101, 116, 97] (wS nr [97] [97, 108, 112, 104, 97] (wS2 (wS1 sx.toList))) ∧ wx = wc)
                            case first =>
                              cases bb
                              · go_wp2_with fail
                                go_meet
                                exact ⟨_, rfl, by rw [← HX3.out]; unfold wS; rw [if_neg (of_decide_eq_false HBB.out.symm)], rfl⟩
                              · go_wp2_with fail
                                go_meet
                                exact ⟨_, rfl, by rw [← HX3.out]; unfold wS; rw [if_pos (of_decide_eq_true HBB.out.symm)]; exact tl_lit _, rfl⟩
                            case rest =>
                              clear HBB bb
                              obtain ⟨x4, rfl, hx4, rfl⟩ := hcut
                              have HX4 := Lib.hid hx4
                              clear hx4
                              obtain ⟨bb, hbb⟩ : ∃ bb : Bool, bb = decide (nr = true ∧ x4.toList = [109]) := ⟨_, rfl⟩
                              have HBB := Lib.hid hbb
                              clear hbb
                              go_upto_region 35 with fail
                              go_cut [11, 185] from 145 to 191 (fun t b wx => t = .string x4 ∧ b = .bool bb ∧ wx = wc)
                              case first =>
                                cases nr
                                · go_wp2_with fail
                                  go_meet
                                  exact ⟨rfl, congrArg Value.bool (by rw [HBB.out]; exact (decide_eq_false (fun h => by cases h.1)).symm), rfl⟩
                                · by_cases h4 : x4.toList = [109]
                                  · have e4 : (x4.toList == [109]) = true := by rw [h4]; rfl
                                    have H4 := Lib.hid h4
                                    clear h4
                                    go_wp2_with fail
                                    go_meet
                                    exact ⟨rfl, congrArg Value.bool (by rw [HBB.out]; exact (decide_eq_true ⟨by first | rfl | trivial, H4.out⟩).symm), rfl⟩
                                  · have e4 : (x4.toList == [109]) = false := by rw [beq_eq_false_iff_ne]; exact h4
                                    have H4 := Lib.hid h4
                                    clear h4
                                    go_wp2_with fail
                                    go_meet
                                    exact ⟨rfl, congrArg Value.bool (by rw [HBB.out]; exact (decide_eq_false (fun h => H4.out h.2)).symm), rfl⟩
                              case rest =>
                                obtain ⟨rfl, rfl, rfl⟩ := hcut
                                go_upto_if 185 with fail
                                go_cut [11] from 145 to 191 (fun t wx => ∃ x, t = .string x ∧ x.toList = wS nr [109] [109, 105, 108, 101, 115, 116, 111, 110, 101] (wS nr [98] [98, 101, 116, 97] (wS nr [97] [97, 108, 112, 104, 97] (wS2 (wS1 sx.toList)))) ∧ wx = wc)
                                case first =>
                                  cases bb
                                  · go_wp2_with fail
                                    go_meet
                                    exact ⟨_, rfl, by rw [← HX4.out]; unfold wS; rw [if_neg (of_decide_eq_false HBB.out.symm)], rfl⟩
                                  · go_wp2_with fail
                                    go_meet
                                    exact ⟨_, rfl, by rw [← HX4.out]; unfold wS; rw [if_pos (of_decide_eq_true HBB.out.symm)]; exact tl_lit _, rfl⟩
                                case rest =>
                                  clear HBB bb
                                  obtain ⟨x5, rfl, hx5, rfl⟩ := hcut
                                  have HX5 := Lib.hid hx5
                                  clear hx5
                                  go_wp2
                                  exact ⟨HND.out _ (HW5.out _ HX5.out), by simp [intOf]; omega⟩
          · clear_value *
            as_aux_lemma =>
              have c0' : wr.cell? ⟨g, k2 * 3, none⟩ = some (.bool false) := by rw [c0]; simp [rawR, hnu]
              clear c0 c1
              have HO := Lib.hid ho
              have HN2 := Lib.hid hn
              clear ho hn hr
              go_wp2
              go_loopw [] (fun wr => (∃ u, wr.ownsRow (w.heap.size + 1 + 1) 73 3 (.slice (some ⟨g, 0, none⟩) R.length cl) R.length (rowT ((mixR R k2).set k2 ⟨r.hy, true, u⟩)) ∧ wr.ownsRow w.heap.size 4 1 (.slice (some ⟨gn, 0, none⟩) R.length cn) R.length (rowN R) ∧ Lib.trimLeftB u 48 = Lib.trimLeftB r.tx 48) ∧ Below w.heap.size w wr) (fun wr => cellSz wr ⟨g, k2 * 3 + 2, none⟩)
              case atStart => exact ⟨⟨r.tx, by rw [show (⟨r.hy, true, r.tx⟩ : Pt) = rawR r by rw [rawR, hnu], list_set_id (mixR_at HR2.out)]; exact HO.out, HN2.out, rfl⟩, hb2⟩
              case round =>
                obtain ⟨⟨u, ho, hn, hu⟩, hb3⟩ := hrel
                clear HO HN2 c0' c2 cf hb2 hz2
                have hp2 : ((mixR R k2).set k2 ⟨r.hy, true, u⟩)[k2]? = some ⟨r.hy, true, u⟩ := List.getElem?_set_self (by rw [mixR_len]; exact hlt)
                obtain ⟨c0, c1, c2⟩ := ownT_cells ho hp2
                have cf := World.ownsRow.frozenAt ho (k2 * 3 + 2)
                clear c1
                have HP2 := Lib.hid hp2
                have HO := Lib.hid ho
                have HN2 := Lib.hid hn
                have HU := Lib.hid hu
                clear hp2 ho hn hu
                cases u with
                | nil =>
                  have hs0 : (str []).size = 0 := rfl
                  go_wp2
                  exact ⟨⟨lo2_num HR2.out hnu HO.out HN2.out HU.out, hb3⟩, by simp [intOf]; omega⟩
                | cons x xs =>
                  have hsx : (str (x :: xs)).size = xs.length + 1 := by rw [size_str]; rfl
                  have hix := idx0 x xs
                  by_cases hx : x = 48
                  · subst hx
                    have hix : ∀ w, (Instr.index 9 (.string (str (48 :: xs))) (.int .i64 0)).run Tryd.prog w = .ok (.int .u8 48) w := idx0 48 xs
                    go_wp2
                    rw [ext1_str2]
                    obtain ⟨h1, h2, h3⟩ := own_text (by omega) HO.out HN2.out HP2.out hb3 xs
                    rw [List.set_set] at h1
                    have hc := (ownT_cells h1 (List.getElem?_set_self (by rw [mixR_len]; exact hlt))).2.2
                    exact ⟨⟨⟨xs, h1, h2, by rw [← HU.out]; rfl⟩, h3⟩, by rw [cellSz_of hc, cellSz_of c2]; simp⟩
                  · have hix := idx0 x xs
                    have hx' : ¬ (x.toNat : Int) = 48 := by
                      intro h; exact hx (UInt8.toNat_inj.1 (by show x.toNat = 48; omega))
                    go_wp2
                    exact ⟨⟨lo2_num HR2.out hnu HO.out HN2.out (by rw [← HU.out]; unfold Lib.trimLeftB; rw [List.dropWhile_cons_of_neg (by simpa using hx)]), hb3⟩, by simp [intOf]; omega⟩
        · have hkk : k2 = R.length := by omega
          rw [hkk, mixR_end] at ho
          have HO := Lib.hid ho
          clear ho hn
          have HP0 : 1 ≤ R.length := by
            have := congrArg List.length hP.out
            rw [List.length_map] at this
            have := parts0_pos5 (l.map lowB)
            omega
          have hRl : (R.length : Int) ≤ k2 := by omega
          clear hkk
          go_wp2
          go_loopw [3, 12] (fun lv gv wr => Lo4 (w.heap.size + 1) (parts0 (l.map lowB)) lv gv wr ∧ Below w.heap.size w wr) (fun lv gv _ => 2 * lenOf lv + bit gv)
          case atStart => exact ⟨⟨R.map finR, true, by rw [List.length_map]; exact HO.out, rfl, by rw [hP.out], by rw [List.length_map]; omega, by rw [List.length_map]; omega, fun h => by cases h⟩, hb2⟩
          case round =>
            clear HO hb2 hz2 HP0 hRl
            obtain ⟨⟨Q, g, ho, rfl, htr, hq1, hq2, hno⟩, hb3⟩ := hrel
            cases g
            · have hend2 : trimmedL Q = Q := trimmed_end fun i h1 h2 => hno rfl i h1 h2
              have hQp : Q = partsB l := by rw [← hend2, htr]; rfl
              have hrd := RdR.of_own ho
              rw [hQp] at hrd
              have HRD := Lib.hid hrd
              clear ho htr hno hend2 hQp hrd hq1 hq2
              go_wp2
              go_ret
              exact ⟨_, rfl, by rw [← HL.out]; exact HRD.out, hb3⟩
            · obtain ⟨gl, cl, rfl, hgl1, hgl2⟩ := ho.form (by omega)
              have HO := Lib.hid ho
              have HTR := Lib.hid htr
              clear ho htr hno
              go_wp2
              go_loopw [3, 12, 13] (fun lv gv iv wr => Lo5 (w.heap.size + 1) Q lv gv iv wr ∧ Below w.heap.size w wr) (fun lv _ iv _ => lenOf lv - (intOf iv).toNat)
              case atStart => exact ⟨⟨Q, false, 1, HO.out, rfl, rfl, by omega, by omega, by omega, fun _ => ⟨rfl, fun j h1 h2 => by omega⟩, fun h => by cases h⟩, hb3⟩
              case round =>
                clear HO hb3
                obtain ⟨⟨Q2, g2, i, ho, rfl, rfl, hi1, hi2, hq3, hf, ht⟩, hb4⟩ := hrel
                have hz4 := hb4.size
                obtain ⟨gl, cl, rfl, hgl1, hgl2⟩ := ho.form (by omega)
                have hcl := own_le ho
                cases g2
                · obtain ⟨rfl, hno⟩ := hf rfl
                  clear hf ht
                  by_cases hlt : i < Q2.length
                  · have hltI : (i : Int) < Q2.length := by omega
                    obtain ⟨p, hp⟩ : ∃ p, Q2[i]? = some p := ⟨_, List.getElem?_eq_getElem hlt⟩
                    obtain ⟨c0, c1, c2⟩ := ownT_cells ho hp
                    clear c0 c1
                    have hpp := ptAt_some hp
                    have HNO := Lib.hid hno
                    clear hno
                    by_cases hpt : p.tx = []
                    · have c2' : wr.cell? ⟨gl, i * 3 + 2, none⟩ = some (.string ⟨#[]⟩) := by rw [c2, hpt]; rfl
                      clear c2
                      by_cases hl1 : i + 1 = Q2.length
                      · have hl1I : ((i : Int) + 1 == Q2.length) = true := by simp; omega
                        have HO := Lib.hid ho
                        clear ho
                        have hI1 := Lib.hid hi1
                        have HRM := Lib.hid (show Rm Q2 i from ⟨by rw [hpp]; exact hpt, .inl hl1⟩)
                        have HE := Lib.hid (World.ownsRow_lit (base := w.heap.size + 1 + 1) (e := 73) (size := 3) wr #[] 0 (by omega) (by unfold maxLen; omega) rfl)
                        have HN1 := Lib.hid (news1 (i := i) (w1 := wr) HO.out (.cells #[] 73))
                        have hL := rowT_len Q2
                        have HL1 := Lib.hid (show ((rowT Q2).take (i * 3)).length = i * 3 by rw [List.length_take, hL]; omega)
                        have HL2 := Lib.hid (show ((rowT Q2).drop ((i + 1) * 3)).length = (Q2.length - (i + 1)) * 3 by rw [List.length_drop, hL]; omega)
                        have HX1 := Lib.hid (show ∀ u ∈ (rowT Q2).take (i * 3), u.oneCell' = true from fun u hu => rowT_one Q2 u (List.mem_of_mem_take hu))
                        have HX2 := Lib.hid (show ∀ u ∈ (rowT Q2).drop ((i + 1) * 3), u.oneCell' = true from fun u hu => rowT_one Q2 u (List.mem_of_mem_drop hu))
                        have hicl : i ≤ cl := by omega
                        have hi1' : i + 1 ≤ Q2.length := hlt
                        clear hL
                        have hwi : IntKind.i64.wrap ((i : Int) + 1) = (i : Int) + 1 := IntWalk.i64_in _ ⟨by omega, by omega⟩
                        have hti : ((i : Int) + 1).toNat = i + 1 := by omega
                        have h0i : (0 : Int) ≤ (i : Int) + 1 := by omega
                        have h1i : (i : Int) + 1 ≤ Q2.length := by omega
                        by_cases hcc : cl = i + 1
                        · obtain rfl : cl = Q2.length := by omega
                          clear hcc
                          go_wp2
                          go_region_law (first
                            | (refine step_app rfl (.tmp 224) (.tmp 227) 70 rfl _ 3 24 (w.heap.size + 1 + 1) 0 73 Tryd.underlying70 rt_info rfl (by omega) (.slice (some ⟨wr.heap.size, 0, none⟩) 0 0) [] (by simp [Act.eval, Act.put]) HE.out ⟨gl, 0, none⟩ i Q2.length ((rowT Q2).take (i * 3)) (by simp [Act.eval, Act.put] <;> omega) HL1.out HN1.out HX1.out (by unfold maxLen; omega) (by omega) (by simp; omega) ?_; intro v1 w1 o1 g1 b1; have g1 : (wr.alloc (.cells #[] 73)).grownBy w1 (some wr.heap.size) := ⟨g1.os, g1.tape, g1.output, g1.size, g1.block⟩)
                            | (refine step_app rfl (.tmp 228) (.tmp 232) 70 rfl _ 3 24 (w.heap.size + 1 + 1) (0 + i) 73 Tryd.underlying70 rt_info rfl (by omega) v1 ([] ++ (rowT Q2).take (i * 3)) (by simp [Act.eval, Act.put]) o1 ⟨gl, 0, none⟩ (Q2.length - (i + 1)) (Q2.length - (i + 1)) ((rowT Q2).drop ((i + 1) * 3)) (by simp [Act.eval, Act.put] <;> first | omega | exact ⟨by rw [if_neg (show ¬ cl = Q2.length by omega), show Q2.length = i + 1 from by omega], by omega, by omega⟩) HL2.out (news2 (o := .cells #[] 73) HO.out g1 _ rfl (by first | (intro _; rfl) | (intro _; exfalso; omega))) HX2.out (by unfold maxLen; omega) (by omega) (by have := g1.size; simp at this; omega) ?_; intro v2 w2 o2 g2 b2; have g2 : w1.grownBy w2 v1.ownBlock := ⟨g2.os, g2.tape, g2.output, g2.size, g2.block⟩))
                          all_goals go_wp2
                          all_goals exact ⟨⟨lo5_rm HRM.out hI1.out hlt o2, rm_below hb4 (by omega) g1 (by simpa [Value.ownBlock] using b1) g2⟩, (by show lenOf v2 - (intOf (.int .i64 ((i : Int) + 1))).toNat < lenOf (.slice (some ⟨gl, 0, none⟩) Q2.length Q2.length) - (intOf (.int .i64 i)).toNat; rw [own_lenOf o2]; simp [lenOf, intOf]; omega)⟩
                        · go_wp2
                          go_region_law (first
                            | (refine step_app rfl (.tmp 224) (.tmp 227) 70 rfl _ 3 24 (w.heap.size + 1 + 1) 0 73 Tryd.underlying70 rt_info rfl (by omega) (.slice (some ⟨wr.heap.size, 0, none⟩) 0 0) [] (by simp [Act.eval, Act.put]) HE.out ⟨gl, 0, none⟩ i cl ((rowT Q2).take (i * 3)) (by simp [Act.eval, Act.put] <;> omega) HL1.out HN1.out HX1.out (by unfold maxLen; omega) (by omega) (by simp; omega) ?_; intro v1 w1 o1 g1 b1; have g1 : (wr.alloc (.cells #[] 73)).grownBy w1 (some wr.heap.size) := ⟨g1.os, g1.tape, g1.output, g1.size, g1.block⟩)
                            | (refine step_app rfl (.tmp 228) (.tmp 232) 70 rfl _ 3 24 (w.heap.size + 1 + 1) (0 + i) 73 Tryd.underlying70 rt_info rfl (by omega) v1 ([] ++ (rowT Q2).take (i * 3)) (by simp [Act.eval, Act.put]) o1 ⟨gl, (i + 1) * 3, none⟩ (Q2.length - (i + 1)) (cl - (i + 1)) ((rowT Q2).drop ((i + 1) * 3)) (by simp [Act.eval, Act.put] <;> first | omega | exact ⟨by rw [if_neg (show ¬ cl = Q2.length by omega), show Q2.length = i + 1 from by omega], by omega, by omega⟩) HL2.out (news2 (o := .cells #[] 73) HO.out g1 _ rfl (by first | (intro _; rfl) | (intro _; exfalso; omega))) HX2.out (by unfold maxLen; omega) (by omega) (by have := g1.size; simp at this; omega) ?_; intro v2 w2 o2 g2 b2; have g2 : w1.grownBy w2 v1.ownBlock := ⟨g2.os, g2.tape, g2.output, g2.size, g2.block⟩))
                          all_goals go_wp2
                          all_goals exact ⟨⟨lo5_rm HRM.out hI1.out hlt o2, rm_below hb4 (by omega) g1 (by simpa [Value.ownBlock] using b1) g2⟩, (by show lenOf v2 - (intOf (.int .i64 ((i : Int) + 1))).toNat < lenOf (.slice (some ⟨gl, 0, none⟩) Q2.length cl) - (intOf (.int .i64 i)).toNat; rw [own_lenOf o2]; simp [lenOf, intOf]; omega)⟩
                      · have hl1I : ((i : Int) + 1 == Q2.length) = false := by simp; omega
                        obtain ⟨q, hq⟩ : ∃ q, Q2[i + 1]? = some q := ⟨_, List.getElem?_eq_getElem (by omega)⟩
                        have hqq := ptAt_some hq
                        obtain ⟨d0, d1, d2⟩ := ownT_cells ho hq
                        clear d0 d2
                        have HO := Lib.hid ho
                        have hltI2 : (i : Int) + 1 < Q2.length := by omega
                        clear ho
                        cases hqy : q.hy
                        · rw [hqy] at d1
                          go_wp2
                          exact ⟨⟨⟨Q2, false, i + 1, HO.out, rfl, by simp, by omega, by omega, hq3, fun _ => ⟨rfl, not_rm HNO.out (fun ⟨_, h⟩ => h.elim hl1 (fun h => by rw [hqq, hqy] at h; cases h))⟩, fun h => by cases h⟩, hb4⟩, by simp [intOf, lenOf]; omega⟩
                        · rw [hqy] at d1
                          have hI1 := Lib.hid hi1
                          have HRM := Lib.hid (show Rm Q2 i from ⟨by rw [hpp]; exact hpt, .inr (by rw [hqq, hqy])⟩)
                          have HE := Lib.hid (World.ownsRow_lit (base := w.heap.size + 1 + 1) (e := 73) (size := 3) wr #[] 0 (by omega) (by unfold maxLen; omega) rfl)
                          have HN1 := Lib.hid (news1 (i := i) (w1 := wr) HO.out (.cells #[] 73))
                          have hL := rowT_len Q2
                          have HL1 := Lib.hid (show ((rowT Q2).take (i * 3)).length = i * 3 by rw [List.length_take, hL]; omega)
                          have HL2 := Lib.hid (show ((rowT Q2).drop ((i + 1) * 3)).length = (Q2.length - (i + 1)) * 3 by rw [List.length_drop, hL]; omega)
                          have HX1 := Lib.hid (show ∀ u ∈ (rowT Q2).take (i * 3), u.oneCell' = true from fun u hu => rowT_one Q2 u (List.mem_of_mem_take hu))
                          have HX2 := Lib.hid (show ∀ u ∈ (rowT Q2).drop ((i + 1) * 3), u.oneCell' = true from fun u hu => rowT_one Q2 u (List.mem_of_mem_drop hu))
                          have hicl : i ≤ cl := by omega
                          have hi1' : i + 1 ≤ Q2.length := hlt
                          clear hL
                          have hwi : IntKind.i64.wrap ((i : Int) + 1) = (i : Int) + 1 := IntWalk.i64_in _ ⟨by omega, by omega⟩
                          have hti : ((i : Int) + 1).toNat = i + 1 := by omega
                          have h0i : (0 : Int) ≤ (i : Int) + 1 := by omega
                          have h1i : (i : Int) + 1 ≤ Q2.length := by omega
                          have hcc : ¬ cl = i + 1 := by omega
                          go_wp2
                          go_region_law (first
                            | (refine step_app rfl (.tmp 224) (.tmp 227) 70 rfl _ 3 24 (w.heap.size + 1 + 1) 0 73 Tryd.underlying70 rt_info rfl (by omega) (.slice (some ⟨wr.heap.size, 0, none⟩) 0 0) [] (by simp [Act.eval, Act.put]) HE.out ⟨gl, 0, none⟩ i cl ((rowT Q2).take (i * 3)) (by simp [Act.eval, Act.put] <;> omega) HL1.out HN1.out HX1.out (by unfold maxLen; omega) (by omega) (by simp; omega) ?_; intro v1 w1 o1 g1 b1; have g1 : (wr.alloc (.cells #[] 73)).grownBy w1 (some wr.heap.size) := ⟨g1.os, g1.tape, g1.output, g1.size, g1.block⟩)
                            | (refine step_app rfl (.tmp 228) (.tmp 232) 70 rfl _ 3 24 (w.heap.size + 1 + 1) (0 + i) 73 Tryd.underlying70 rt_info rfl (by omega) v1 ([] ++ (rowT Q2).take (i * 3)) (by simp [Act.eval, Act.put]) o1 ⟨gl, (i + 1) * 3, none⟩ (Q2.length - (i + 1)) (cl - (i + 1)) ((rowT Q2).drop ((i + 1) * 3)) (by simp [Act.eval, Act.put] <;> first | omega | exact ⟨by rw [if_neg (show ¬ cl = Q2.length by omega), show Q2.length = i + 1 from by omega], by omega, by omega⟩) HL2.out (news2 (o := .cells #[] 73) HO.out g1 _ rfl (by first | (intro _; rfl) | (intro _; exfalso; omega))) HX2.out (by unfold maxLen; omega) (by omega) (by have := g1.size; simp at this; omega) ?_; intro v2 w2 o2 g2 b2; have g2 : w1.grownBy w2 v1.ownBlock := ⟨g2.os, g2.tape, g2.output, g2.size, g2.block⟩))
                          all_goals go_wp2
                          all_goals exact ⟨⟨lo5_rm HRM.out hI1.out hlt o2, rm_below hb4 (by omega) g1 (by simpa [Value.ownBlock] using b1) g2⟩, (by show lenOf v2 - (intOf (.int .i64 ((i : Int) + 1))).toNat < lenOf (.slice (some ⟨gl, 0, none⟩) Q2.length cl) - (intOf (.int .i64 i)).toNat; rw [own_lenOf o2]; simp [lenOf, intOf]; omega)⟩
                    · have hsz0 : (str p.tx).toList.isEmpty = false := by rw [tl_str]; simpa using hpt
                      have HO := Lib.hid ho
                      clear ho
                      go_wp2
                      exact ⟨⟨⟨Q2, false, i + 1, HO.out, rfl, by simp, by omega, by omega, hq3, fun _ => ⟨rfl, not_rm HNO.out (by rintro ⟨h, _⟩; rw [hpp] at h; exact hpt h)⟩, fun h => by cases h⟩, hb4⟩, by simp [intOf, lenOf]; omega⟩
                  · have hie : i = Q2.length := by omega
                    have hltI : (Q2.length : Int) ≤ i := by omega
                    have HNO := Lib.hid hno
                    have HO := Lib.hid ho
                    clear ho hno
                    go_wp2
                    exact ⟨⟨⟨Q2, false, HO.out, rfl, HTR.out, hq3, hq2, fun _ j h1 h2 => HNO.out j h1 (by omega)⟩, hb4⟩, by simp [lenOf, bit]⟩
                · obtain ⟨ht1, ht2⟩ := ht rfl
                  have HT2 := Lib.hid ht2
                  have HO := Lib.hid ho
                  clear hf ht ht2 ho
                  by_cases hlt : (i : Int) < Q2.length
                  all_goals
                    go_wp2
                    exact ⟨⟨⟨Q2, true, HO.out, rfl, HT2.out.trans HTR.out, hq3, by omega, fun h => by cases h⟩, hb4⟩, by simp [lenOf, bit]; omega⟩
end Go.Proofs.YtnghagikchffiaaDoor
