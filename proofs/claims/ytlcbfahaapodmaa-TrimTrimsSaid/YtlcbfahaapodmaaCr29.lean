/-
  Layer 29: covers. Own work.
-/
import Derived.Test.YtlcbfahaapodmaaCv29
import Derived.Test.YtlcbfahaapodmaaHd29
namespace Go.Proofs.Ytlcbfahaapodmaa
set_option linter.unusedVariables false
set_option linter.unusedSimpArgs false
open Go.RowKit

theorem andNot_sub {x y : Nat} (h : ∀ j, x.testBit j = true → y.testBit j = true) : bits .andNot .u64 (x : Int) (y : Int) = 0 := by
  show IntKind.u64.wrap ((BitVec.ofInt 64 (x : Int) &&& ~~~ BitVec.ofInt 64 (y : Int)).toNat : Int) = 0
  have e : (BitVec.ofInt 64 (x : Int) &&& ~~~ BitVec.ofInt 64 (y : Int)) = 0#64 := by
    apply BitVec.eq_of_getLsbD_eq
    intro i hi
    rw [BitVec.getLsbD_and, BitVec.getLsbD_not, BitVec.ofInt_natCast, BitVec.ofInt_natCast, BitVec.getLsbD_ofNat, BitVec.getLsbD_ofNat]
    cases hx : x.testBit i with
    | false => simp
    | true => simp [hi, h i hx]
  rw [e]
  rfl
theorem common_all {c d : List Int} (hc : c.Nodup) (hd : d.Nodup) : ((d.filter fun n => decide (n ∈ c)).length = c.length) ↔ ∀ n ∈ c, n ∈ d := by
  have hf : (d.filter fun n => decide (n ∈ c)).Nodup := hd.filter _
  have hs : ∀ n ∈ d.filter (fun n => decide (n ∈ c)), n ∈ c := fun n hn => by simpa using (List.mem_filter.1 hn).2
  constructor
  · intro h n hn
    refine Classical.byContradiction fun hnd => ?_
    have h1 : (n :: d.filter fun n => decide (n ∈ c)).Nodup := List.nodup_cons.2 ⟨fun hm => hnd (List.mem_filter.1 hm).1, hf⟩
    have := List.Nodup.length_le_of_subset h1 (l₂ := c) (fun m hm => by
      rcases List.mem_cons.1 hm with rfl | hm
      · exact hn
      · exact hs m hm)
    simp only [List.length_cons] at this
    omega
  · intro h
    have h1 := List.Nodup.length_le_of_subset hf (l₂ := c) (fun m hm => hs m hm)
    have h2 := List.Nodup.length_le_of_subset hc (l₂ := d.filter fun n => decide (n ∈ c)) (fun m hm => List.mem_filter.2 ⟨h m hm, by simpa using hm⟩)
    omega
/-- the literals of the first clause are marked, and no other ones -/
structure MkOk (S : Ws) : Prop where
  len : S.mb.length = wide S
  mks : ∀ (a : Nat) b, S.mb[a]? = some b → (b = true ↔ ∃ c, S.L[S.first]? = some c ∧ ∃ n ∈ c, posN S.vars n = a)
theorem MkOk.at {S : Ws} (h : MkOk S) (hg : Gd S) {c : List Int} (hc : S.L[S.first]? = some c) {n : Int} (hn : -(S.vars : Int) ≤ n ∧ n ≤ (S.vars : Int)) : S.mb[posN S.vars n]? = some (decide (n ∈ c)) := by
  have hl : posN S.vars n < S.mb.length := by rw [h.len]; unfold wide posN; omega
  rw [List.getElem?_eq_getElem hl]
  have := h.mks _ _ (List.getElem?_eq_getElem hl)
  congr 1
  by_cases hm : n ∈ c
  · rw [decide_eq_true hm]
    exact this.2 ⟨c, hc, n, hm, rfl⟩
  · rw [decide_eq_false hm]
    cases hq : S.mb[posN S.vars n] with
    | false => rfl
    | true =>
      obtain ⟨c', h1, m, h2, h3⟩ := this.1 hq
      rw [hc] at h1
      cases h1
      have := hg.lits c (List.mem_of_getElem? hc) m h2
      exact absurd (posN_inj (by omega) (by omega) h3 ▸ h2) hm
theorem coversW_len {S : Ws} {i k : Nat} {c d : List Int} (hc : S.L[i]? = some c) (hd : S.L[k]? = some d) : coversW S i k = (i != k && (decide (c.length < d.length) || decide (i < k)) && c.all fun n => decide (n ∈ d)) := by
  unfold coversW
  simp [List.getD, hc, hd]
theorem all_mem {c d : List Int} : (c.all fun n => decide (n ∈ d)) = true ↔ ∀ n ∈ c, n ∈ d := by
  rw [List.all_eq_true]; simp
theorem sub_len {c d : List Int} (hc : c.Nodup) (h : ∀ n ∈ c, n ∈ d) : c.length ≤ d.length := List.Nodup.length_le_of_subset hc (fun m hm => h m hm)
section
variable {w : World} {n0 : Nat} {M : Wm} {S : Ws} {ex : Tw → Prop}
theorem KW.sgAt (h : KW w n0 M S ex) (h1 : ¬ ex .sig) (hs : S.sg = S.L.map (sgnM S.vars)) {i : Nat} {c : List Int} (hc : S.L[i]? = some c) :
    ∃ g cap, M.hd .sig = .slice (some ⟨g, 0, none⟩) S.L.length cap ∧ w.cell? ⟨g, i, none⟩ = some (.int .u64 (sgnM S.vars c : Int)) ∧ w.frozen? ⟨g, i, none⟩ = false ∧ M.tag g = .sig := by
  obtain ⟨g, cap, e1, e2, e3, e4, _⟩ := h.at (t := .sig) rfl h1 (j := i) (x := uV (sgnM S.vars c)) (by
    show (S.sg.map uV)[i]? = _
    rw [hs, List.getElem?_map, List.getElem?_map, hc]; rfl)
  have e5 : ctW S M.hd .sig = S.sg.map uV := rfl
  rw [e5, List.length_map, hs, List.length_map] at e1
  exact ⟨g, cap, e1, e2, e3, e4⟩
set_option maxHeartbeats 4000000 in
set_option maxRecDepth 100000 in
theorem covers29_any (h : KW w n0 M S noW) (hgd : Gd S) (hm : MkOk S) (hs : S.sg = S.L.map (sgnM S.vars)) {k : Nat} {c d : List Int} (hc : S.L[S.first]? = some c) (hd : S.L[k]? = some d) (hcn : c.Nodup) (hdn : d.Nodup) :
    Calls Try.prog 45 #[.pointer (some ⟨M.K, 0, none⟩), .int .i64 (S.first : Int), .int .i64 (k : Int)] w fun e w' => e = .returned (.bool (coversW S S.first k)) ∧ ∃ m, w' = w.drewN m := by
  have hno : ∀ t, ¬ noW t := fun t h => h
  have hcW := coversW_len hc hd
  have hlc : ∀ c ∈ S.L, c.length ≤ 1000000 ∧ ∀ n ∈ c, -(S.vars : Int) ≤ n ∧ n ≤ (S.vars : Int) := fun c hc => ⟨by have := size_mem hc; have := hgd.size; omega, fun n hn => by have := hgd.lits c hc n hn; omega⟩
  have hi := (List.getElem?_eq_some_iff.1 hc).1
  have hk := (List.getElem?_eq_some_iff.1 hd).1
  have hL6 : S.L.length ≤ 1000000 := Nat.le_trans (size_len _) hgd.size
  obtain ⟨g, cap, e1, e2, e3, _, er, ca, cc, es⟩ := h.clause (hno _) (hno _) hc
  obtain ⟨g', cap', f1, f2, f3, _, fr, da, dc, fs⟩ := h.clause (hno _) (hno _) hd
  rw [e1] at f1
  cases f1
  obtain ⟨s, sc, s1, s2, s3, _⟩ := h.sgAt (hno _) hs hc
  obtain ⟨s', sc', u1, u2, u3, _⟩ := h.sgAt (hno _) hs hd
  rw [s1] at u1
  cases u1
  have hc1 := h.cLst (hno _)
  have hc14 := h.cSig (hno _)
  have hc13 := h.cMem (hno _)
  rw [e1] at hc1
  rw [s1] at hc14
  rw [es] at e2
  rw [fs] at f2 fr
  have hiI : (S.first : Int) < (S.L.length : Int) := by omega
  have hkI : (k : Int) < (S.L.length : Int) := by omega
  have hLI : (S.L.length : Int) ≤ 1000000 := by omega
  have hcl6 := (hlc c (List.mem_of_getElem? hc)).1
  have hdl6 := (hlc d (List.mem_of_getElem? hd)).1
  have HK := Lib.hid h
  have HG := Lib.hid hgd
  have HM := Lib.hid hm
  have HC := Lib.hid hc
  have HD := Lib.hid hd
  have HDL := Lib.hid ((hlc d (List.mem_of_getElem? hd)).2)
  have HFR := Lib.hid fr
  have HCN := Lib.hid hcn
  have HDN := Lib.hid hdn
  have HCW := Lib.hid hcW
  have hv6 := hgd.vars
  clear h hgd hm hs hc hd hcn hdn hcW hlc er es fr fs e1 s1
  obtain ⟨cl, hcl⟩ : ∃ cl : Nat, c.length = cl := ⟨_, rfl⟩
  obtain ⟨dl, hdl⟩ : ∃ dl : Nat, d.length = dl := ⟨_, rfl⟩
  have HCL := Lib.hid hcl
  have HDLEN := Lib.hid hdl
  rw [hcl] at e2 hcl6
  rw [hdl] at f2 hdl6
  clear hcl hdl
  have hclI : (cl : Int) ≤ 1000000 := by omega
  have hdlI : (dl : Int) ≤ 1000000 := by omega
  generalize S.L.length = ll at *
  by_cases hik : S.first = k
  · have hikb : ((S.first : Int) == (k : Int)) = true := by rw [hik]; simp
    have HR := Lib.hid (show coversW S S.first k = false from by rw [HCW.out]; simp [hik])
    clear hik
    go_enter Try.func45, Try.ntmps45
    go_upto_region 1 with fail
    go_quiet (fail)
    go_upto_region 2 with fail
    go_quiet (fail)
    go_wp2
    go_ret
    exact ⟨by rw [HR.out]; rfl, _, World.drewN_drewN _ _ _⟩
  · have hikb : ((S.first : Int) == (k : Int)) = false := by simp; omega
    have HIK := Lib.hid hik
    by_cases hlt : dl < cl
    · have HR := Lib.hid (show coversW S S.first k = false from by
        rw [HCW.out]
        have : (c.all fun n => decide (n ∈ d)) = false := by
          cases hq : (c.all fun n => decide (n ∈ d)) with
          | false => rfl
          | true =>
            have := sub_len HCN.out (all_mem.1 hq)
            have := HCL.out
            have := HDLEN.out
            omega
        rw [this]; simp)
      have hltI : (dl : Int) < (cl : Int) := by omega
      clear hik
      go_enter Try.func45, Try.ntmps45
      go_upto_region 1 with fail
      go_quiet (fail)
      go_upto_region 2 with fail
      go_quiet (fail)
      go_wp2
      go_ret
      exact ⟨by rw [HR.out]; rfl, _, World.drewN_drewN _ _ _⟩
    · have hltI : (cl : Int) ≤ (dl : Int) := by omega
      by_cases heq : cl = dl ∧ k < S.first
      · have HR := Lib.hid (show coversW S S.first k = false from by
          rw [HCW.out, HCL.out, HDLEN.out]
          rw [show decide (cl < dl) = false from by simp; omega, show decide (S.first < k) = false from by simp; omega]
          simp)
        have heI : ((cl : Int) == (dl : Int)) = true := by rw [heq.1]; simp
        have hkJ : (k : Int) < (S.first : Int) := by omega
        have hkN : k < S.first := heq.2
        have hceq : cl = dl := heq.1
        clear hik heq
        go_enter Try.func45, Try.ntmps45
        go_upto_region 1 with fail
        go_quiet (fail)
        go_upto_region 2 with fail
        go_quiet (fail)
        go_wp2
        go_ret
        exact ⟨by rw [HR.out]; rfl, _, World.drewN_drewN _ _ _⟩
      · have HO := Lib.hid (show cl < dl ∨ S.first < k from by omega)
        by_cases hbit : bits .andNot .u64 (sgnM S.vars c : Int) (sgnM S.vars d : Int) = 0
        · generalize sgnM S.vars c = X at s2 hbit
          generalize sgnM S.vars d = Y at u2 hbit
          clear hik heq
          by_cases hcd : cl = dl
          · have heI : ((cl : Int) == (dl : Int)) = true := by rw [hcd]; simp
            have hkN : ¬ k < S.first := by have := HO.out; omega
            have hkJ : (S.first : Int) ≤ (k : Int) := by omega
            go_enter Try.func45, Try.ntmps45
            go_upto_region 1 with fail
            go_quiet (fail)
            go_upto_region 2 with fail
            go_quiet (fail)
            go_wp2_with fail
            go_loopw [9, 70] (fun z q wr => ∃ j m : Nat, j ≤ dl ∧ q = .int .i64 j ∧ z = .int .i64 (((d.take j).filter fun n => decide (n ∈ c)).length : Nat) ∧ wr = w.drewN m) (fun _ q _ => dl - (intOf q).toNat)
            case atStart => exact ⟨0, _, by omega, rfl, rfl, rfl⟩
            case round =>
              obtain ⟨j, m, hj, rfl, rfl, rfl⟩ := hrel
              have hkw := HK.out.drewN m
              have hw13 := hkw.cMem (hno _)
              have HKW := Lib.hid hkw
              have hfl : ((d.take j).filter fun n => decide (n ∈ c)).length ≤ dl := Nat.le_trans (List.length_filter_le _ _) (by rw [List.length_take]; omega)
              have HFW : Reads (w.drewN m) iV (.slice da d.length dc) d := HFR.out
              generalize hW1 : w.drewN m = W1 at hw13 HKW HFW
              have HW1 := Lib.hid hW1
              clear hW1 hkw
              by_cases hlt2 : j < dl
              · obtain ⟨x, hxk⟩ : ∃ x, d[j]? = some x := ⟨_, List.getElem?_eq_getElem (by have := HDLEN.out; omega)⟩
                obtain ⟨b2, rfl, hxc⟩ := reads_elem HFW hxk
                have hxc2 : W1.cell? (b2.add j) = some (.int .i64 x) := hxc
                have hx2 := HDL.out x (List.mem_of_getElem? hxk)
                obtain ⟨a1, ha1⟩ : ∃ a1 : Nat, x + (S.vars : Int) = (a1 : Int) := ⟨(x + (S.vars : Int)).toNat, by omega⟩
                have HA1 := Lib.hid (fun q => at29_any (HKW.out.drewN q) (hno _) x a1 ha1 (by omega))
                have hpa : posN S.vars x = a1 := by unfold posN; rw [ha1]; simp
                have hmb := HM.out.at HG.out HC.out hx2
                rw [hpa] at hmb
                obtain ⟨gm, cm, m1, m2, m3, _⟩ := HKW.out.memAt (hno _) hmb
                rw [m1, HM.out.len] at hw13
                have haI : (a1 : Int) < ((wide S : Nat) : Int) := by unfold wide; omega
                have hwI : ((wide S : Nat) : Int) ≤ 1000000 := by unfold wide; omega
                have hjI : (j : Int) < (dl : Int) := by omega
                have HNX := Lib.hid (show ((d.take (j + 1)).filter fun n => decide (n ∈ c)).length = ((d.take j).filter fun n => decide (n ∈ c)).length + if x ∈ c then 1 else 0 from by
                  rw [take_snoc _ j x hxk, List.filter_append, List.length_append]
                  by_cases h : x ∈ c <;> simp [h])
                clear hxk hxc HFW ha1 hpa hmb m1 hx2
                generalize hwd : wide S = wd at hw13 haI hwI
                clear hwd
                generalize ((d.take j).filter fun n => decide (n ∈ c)).length = q at HNX hfl
                have hqI : (q : Int) ≤ 1000000 := by omega
                by_cases hxm : x ∈ c
                · have m2' : W1.cell? ⟨gm, a1, none⟩ = some (.bool true) := by rw [m2]; simp [hxm]
                  have HQ := Lib.hid (show ((d.take (j + 1)).filter fun n => decide (n ∈ c)).length = q + 1 from by rw [HNX.out, if_pos hxm])
                  clear m2
                  go_upto_region 8 with fail
                  go_quiet ((go_at_call 34; with_reducible exact Calls.quiet_of_same (HA1.out _)))
                  go_wp2_with fail
                  go_round
                  case rel => exact ⟨j + 1, _, by omega, by go_num, by rw [HQ.out]; go_num, by rw [← HW1.out]; exact World.drewN_drewN _ _ _⟩
                  case measure => simp [intOf]; omega
                · have m2' : W1.cell? ⟨gm, a1, none⟩ = some (.bool false) := by rw [m2]; simp [hxm]
                  have HQ := Lib.hid (show ((d.take (j + 1)).filter fun n => decide (n ∈ c)).length = q from by rw [HNX.out, if_neg hxm, Nat.add_zero])
                  clear m2
                  go_upto_region 8 with fail
                  go_quiet ((go_at_call 34; with_reducible exact Calls.quiet_of_same (HA1.out _)))
                  go_wp2_with fail
                  go_round
                  case rel => exact ⟨j + 1, _, by omega, by go_num, by rw [HQ.out], by rw [← HW1.out]; exact World.drewN_drewN _ _ _⟩
                  case measure => simp [intOf]; omega
              · have hjI : (dl : Int) ≤ (j : Int) := by omega
                have e : d.take j = d := List.take_of_length_le (by have := HDLEN.out; omega)
                rw [e] at hfl ⊢
                have HCA := Lib.hid (common_all HCN.out HDN.out)
                have HR := Lib.hid (show coversW S S.first k = decide ((d.filter fun n => decide (n ∈ c)).length = cl) from by
                  rw [HCW.out, HCL.out, HDLEN.out]
                  have h1 : (S.first != k && (decide (cl < dl) || decide (S.first < k))) = true := by
                    have := HO.out
                    have := HIK.out
                    simp
                    omega
                  rw [h1, Bool.true_and]
                  have := HCA.out
                  rw [HCL.out] at this
                  by_cases hq : ∀ n ∈ c, n ∈ d
                  · rw [all_mem.2 hq, decide_eq_true (this.2 hq)]
                  · rw [decide_eq_false (fun h => hq (this.1 h))]
                    cases hqq : (c.all fun n => decide (n ∈ d)) with
                    | false => rfl
                    | true => exact absurd (all_mem.1 hqq) hq)
                clear e
                generalize (d.filter fun n => decide (n ∈ c)).length = q at HR hfl ⊢
                have hqI : (q : Int) ≤ 1000000 := by omega
                by_cases hqc : q = cl
                · have hqb : ((q : Int) == (cl : Int)) = true := by rw [hqc]; simp
                  have HR2 := Lib.hid (show coversW S S.first k = true from by rw [HR.out]; simp [hqc])
                  go_wp2
                  go_ret
                  exact ⟨by rw [HR2.out]; first | (simp [hqc]; done) | (simp; omega), m, HW1.out.symm⟩
                · have hqb : ((q : Int) == (cl : Int)) = false := by simp; omega
                  have HR2 := Lib.hid (show coversW S S.first k = false from by rw [HR.out]; simp [hqc])
                  go_wp2
                  go_ret
                  exact ⟨by rw [HR2.out]; first | (simp [hqc]; done) | (simp; omega), m, HW1.out.symm⟩
          · have heI : ((cl : Int) == (dl : Int)) = false := by simp; omega
            go_enter Try.func45, Try.ntmps45
            go_upto_region 1 with fail
            go_quiet (fail)
            go_upto_region 2 with fail
            go_quiet (fail)
            go_wp2_with fail
            go_loopw [9, 70] (fun z q wr => ∃ j m : Nat, j ≤ dl ∧ q = .int .i64 j ∧ z = .int .i64 (((d.take j).filter fun n => decide (n ∈ c)).length : Nat) ∧ wr = w.drewN m) (fun _ q _ => dl - (intOf q).toNat)
            case atStart => exact ⟨0, _, by omega, rfl, rfl, rfl⟩
            case round =>
              obtain ⟨j, m, hj, rfl, rfl, rfl⟩ := hrel
              have hkw := HK.out.drewN m
              have hw13 := hkw.cMem (hno _)
              have HKW := Lib.hid hkw
              have hfl : ((d.take j).filter fun n => decide (n ∈ c)).length ≤ dl := Nat.le_trans (List.length_filter_le _ _) (by rw [List.length_take]; omega)
              have HFW : Reads (w.drewN m) iV (.slice da d.length dc) d := HFR.out
              generalize hW1 : w.drewN m = W1 at hw13 HKW HFW
              have HW1 := Lib.hid hW1
              clear hW1 hkw
              by_cases hlt2 : j < dl
              · obtain ⟨x, hxk⟩ : ∃ x, d[j]? = some x := ⟨_, List.getElem?_eq_getElem (by have := HDLEN.out; omega)⟩
                obtain ⟨b2, rfl, hxc⟩ := reads_elem HFW hxk
                have hxc2 : W1.cell? (b2.add j) = some (.int .i64 x) := hxc
                have hx2 := HDL.out x (List.mem_of_getElem? hxk)
                obtain ⟨a1, ha1⟩ : ∃ a1 : Nat, x + (S.vars : Int) = (a1 : Int) := ⟨(x + (S.vars : Int)).toNat, by omega⟩
                have HA1 := Lib.hid (fun q => at29_any (HKW.out.drewN q) (hno _) x a1 ha1 (by omega))
                have hpa : posN S.vars x = a1 := by unfold posN; rw [ha1]; simp
                have hmb := HM.out.at HG.out HC.out hx2
                rw [hpa] at hmb
                obtain ⟨gm, cm, m1, m2, m3, _⟩ := HKW.out.memAt (hno _) hmb
                rw [m1, HM.out.len] at hw13
                have haI : (a1 : Int) < ((wide S : Nat) : Int) := by unfold wide; omega
                have hwI : ((wide S : Nat) : Int) ≤ 1000000 := by unfold wide; omega
                have hjI : (j : Int) < (dl : Int) := by omega
                have HNX := Lib.hid (show ((d.take (j + 1)).filter fun n => decide (n ∈ c)).length = ((d.take j).filter fun n => decide (n ∈ c)).length + if x ∈ c then 1 else 0 from by
                  rw [take_snoc _ j x hxk, List.filter_append, List.length_append]
                  by_cases h : x ∈ c <;> simp [h])
                clear hxk hxc HFW ha1 hpa hmb m1 hx2
                generalize hwd : wide S = wd at hw13 haI hwI
                clear hwd
                generalize ((d.take j).filter fun n => decide (n ∈ c)).length = q at HNX hfl
                have hqI : (q : Int) ≤ 1000000 := by omega
                by_cases hxm : x ∈ c
                · have m2' : W1.cell? ⟨gm, a1, none⟩ = some (.bool true) := by rw [m2]; simp [hxm]
                  have HQ := Lib.hid (show ((d.take (j + 1)).filter fun n => decide (n ∈ c)).length = q + 1 from by rw [HNX.out, if_pos hxm])
                  clear m2
                  go_upto_region 8 with fail
                  go_quiet ((go_at_call 34; with_reducible exact Calls.quiet_of_same (HA1.out _)))
                  go_wp2_with fail
                  go_round
                  case rel => exact ⟨j + 1, _, by omega, by go_num, by rw [HQ.out]; go_num, by rw [← HW1.out]; exact World.drewN_drewN _ _ _⟩
                  case measure => simp [intOf]; omega
                · have m2' : W1.cell? ⟨gm, a1, none⟩ = some (.bool false) := by rw [m2]; simp [hxm]
                  have HQ := Lib.hid (show ((d.take (j + 1)).filter fun n => decide (n ∈ c)).length = q from by rw [HNX.out, if_neg hxm, Nat.add_zero])
                  clear m2
                  go_upto_region 8 with fail
                  go_quiet ((go_at_call 34; with_reducible exact Calls.quiet_of_same (HA1.out _)))
                  go_wp2_with fail
                  go_round
                  case rel => exact ⟨j + 1, _, by omega, by go_num, by rw [HQ.out], by rw [← HW1.out]; exact World.drewN_drewN _ _ _⟩
                  case measure => simp [intOf]; omega
              · have hjI : (dl : Int) ≤ (j : Int) := by omega
                have e : d.take j = d := List.take_of_length_le (by have := HDLEN.out; omega)
                rw [e] at hfl ⊢
                have HCA := Lib.hid (common_all HCN.out HDN.out)
                have HR := Lib.hid (show coversW S S.first k = decide ((d.filter fun n => decide (n ∈ c)).length = cl) from by
                  rw [HCW.out, HCL.out, HDLEN.out]
                  have h1 : (S.first != k && (decide (cl < dl) || decide (S.first < k))) = true := by
                    have := HO.out
                    have := HIK.out
                    simp
                    omega
                  rw [h1, Bool.true_and]
                  have := HCA.out
                  rw [HCL.out] at this
                  by_cases hq : ∀ n ∈ c, n ∈ d
                  · rw [all_mem.2 hq, decide_eq_true (this.2 hq)]
                  · rw [decide_eq_false (fun h => hq (this.1 h))]
                    cases hqq : (c.all fun n => decide (n ∈ d)) with
                    | false => rfl
                    | true => exact absurd (all_mem.1 hqq) hq)
                clear e
                generalize (d.filter fun n => decide (n ∈ c)).length = q at HR hfl ⊢
                have hqI : (q : Int) ≤ 1000000 := by omega
                by_cases hqc : q = cl
                · have hqb : ((q : Int) == (cl : Int)) = true := by rw [hqc]; simp
                  have HR2 := Lib.hid (show coversW S S.first k = true from by rw [HR.out]; simp [hqc])
                  go_wp2
                  go_ret
                  exact ⟨by rw [HR2.out]; first | (simp [hqc]; done) | (simp; omega), m, HW1.out.symm⟩
                · have hqb : ((q : Int) == (cl : Int)) = false := by simp; omega
                  have HR2 := Lib.hid (show coversW S S.first k = false from by rw [HR.out]; simp [hqc])
                  go_wp2
                  go_ret
                  exact ⟨by rw [HR2.out]; first | (simp [hqc]; done) | (simp; omega), m, HW1.out.symm⟩
        · have HR := Lib.hid (show coversW S S.first k = false from by
            rw [HCW.out]
            have : (c.all fun n => decide (n ∈ d)) = false := by
              cases hq : (c.all fun n => decide (n ∈ d)) with
              | false => rfl
              | true => exact absurd (andNot_sub (fun j hj => sgnM_sub (all_mem.1 hq) j hj)) hbit
            rw [this]; simp)
          generalize sgnM S.vars c = X at s2 hbit
          generalize sgnM S.vars d = Y at u2 hbit
          obtain ⟨z, hz⟩ : ∃ z, bits .andNot .u64 (X : Int) (Y : Int) = z := ⟨_, rfl⟩
          have hz0 : (z == 0) = false := by rw [← hz]; simpa using hbit
          have hz1 : (z != 0) = true := by rw [← hz]; simpa using hbit
          have hzn : z ≠ 0 := by rw [← hz]; exact hbit
          clear hbit hik heq
          by_cases hcd : cl = dl
          · have heI : ((cl : Int) == (dl : Int)) = true := by rw [hcd]; simp
            have hkN : ¬ k < S.first := by have := HO.out; omega
            have hkJ : (S.first : Int) ≤ (k : Int) := by omega
            go_enter Try.func45, Try.ntmps45
            go_upto_region 1 with fail
            go_quiet (fail)
            go_upto_region 2 with fail
            go_quiet (fail)
            go_wp2
            go_ret
            exact ⟨by rw [HR.out]; rfl, _, World.drewN_drewN _ _ _⟩
          · have heI : ((cl : Int) == (dl : Int)) = false := by simp; omega
            go_enter Try.func45, Try.ntmps45
            go_upto_region 1 with fail
            go_quiet (fail)
            go_upto_region 2 with fail
            go_quiet (fail)
            go_wp2
            go_ret
            exact ⟨by rw [HR.out]; rfl, _, World.drewN_drewN _ _ _⟩
end
end Go.Proofs.Ytlcbfahaapodmaa
