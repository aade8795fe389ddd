/-
  Layer 17: the statement CnfTakes: what is taken by any truths, and whether any numbers are right. For every input. Own work.
-/
import Derived.Test.YtgfgajekegfdgaaLives17
import Derived.Test.YtgfgajekegfdgaaLight17
import Derived.Test.YtgfgajekegfdgaaOpen17
import Derived.Test.YtgfgajekegfdgaaRefTk17
import Derived.Test.YtgfgajekegfdgaaLess17
import Derived.Test.YtgfgajekegfdgaaLaws17a
namespace Go.Proofs.Ytgfgajekegfdgaa
set_option linter.unusedVariables false
set_option linter.unusedSimpArgs false
open Go.ChangeShapes Go.WideShapes Go.ChangeAt Go.RowKit

theorem same_tk {d : Dl} {ts : List Bool} {L L' : List Int} (h : mayD d ≠ 0 ∧ L = [] ∨ mayD d = 0 ∧ IsTk d ts L) (h' : mayD d ≠ 0 ∧ L' = [] ∨ mayD d = 0 ∧ IsTk d ts L') : L' = L := by
  rcases h with ⟨a, b⟩ | ⟨a, b⟩ <;> rcases h' with ⟨a', b'⟩ | ⟨a', b'⟩
  · rw [b, b']
  · exact absurd a' a
  · exact absurd a a'
  · exact b'.one b
theorem tk_small {d : Dl} {ts : List Bool} {L : List Int} (h : mayD d ≠ 0 ∧ L = [] ∨ mayD d = 0 ∧ IsTk d ts L) : L.length ≤ d.its.length ∧ ∀ n ∈ L, 0 ≤ n ∧ n < d.its.length := by
  rcases h with ⟨_, rfl⟩ | ⟨_, h⟩
  · exact ⟨by simp, fun n hn => by simp at hn⟩
  · exact ⟨tk_len h, fun n hn => by obtain ⟨i, hi, -, rfl⟩ := (tk_mem h).1 hn; exact ⟨by omega, by omega⟩⟩
set_option maxRecDepth 100000 in
set_option maxHeartbeats 8000000 in
theorem walk_CnfTakes (vi vw : Value) (d : Dl) (hok : ∀ x ∈ d.its, okIt x) (vt : Value) (ts : List Bool) (vk : Value) (tk : List Int) (hwf : ∀ n ∈ tk, -9223372036854775808 ≤ n ∧ n ≤ 9223372036854775807) (w : World) (hr : RdD w vi vw d) (ht : Reads w bV vt ts) (hkr : Reads w iV vk tk) :
    Calls Try.prog 5 #[dealV vi vw d.root, vt, vk] w fun e w' => e = .returned (.bool true) ∧ Below w.heap.size w w' := by
  obtain ⟨ta, tc, rfl⟩ := ht.shape
  have htl := ht.len
  have htlI : (ts.length : Int) ≤ 9223372036854775807 := by omega
  obtain ⟨ka, kc, rfl⟩ := hkr.shape
  have hkl := hkr.len
  have hklI : (tk.length : Int) ≤ 9223372036854775807 := by omega
  obtain ⟨ai, ci, aw, cw, rfl, rfl⟩ := hr.shape
  have hta := fun w' hr ht => Taken_any d ts (.slice ai d.its.length ci) (.slice aw d.ws.length cw) (.slice ta ts.length tc) w' hr ht
  have htb := fun w' hr ht => refTaken_any d ts (.slice ai d.its.length ci) (.slice aw d.ws.length cw) (.slice ta ts.length tc) w' hr ht
  have hri := fun tk vt hwf htl w' hr ht => Right_any d tk (.slice ai d.its.length ci) (.slice aw d.ws.length cw) vt hok hwf htl w' hr ht
  have hrr := fun tk vt w' hr ht => refRight_any d tk (.slice ai d.its.length ci) (.slice aw d.ws.length cw) vt w' hr ht
  unfold dealV at hta htb hri hrr
  have HTA := Lib.hid hta
  have HTB := Lib.hid htb
  have HRI := Lib.hid hri
  have HRR := Lib.hid hrr
  have HT0 := Lib.hid ht
  have HK0 := Lib.hid hkr
  have HWF := Lib.hid hwf
  clear hta htb hri hrr ht hkr hwf
  have hb0 : Below w.heap.size w (w.alloc (.cells #[.slice ai d.its.length ci, .slice aw d.ws.length cw, .int .i64 d.root] 25)) := (Below.refl w.heap.size w).alloc (Nat.le_refl _) _
  have hk := DlIn.new w (.slice ai d.its.length ci) (.slice aw d.ws.length cw) d.root
  have HR := Lib.hid (hr.below hb0 (Nat.le_refl _))
  have HB0 := Lib.hid hb0
  have HT := Lib.hid (HT0.out.below hb0 (Nat.le_refl _))
  have HTK := Lib.hid (HK0.out.below hb0 (Nat.le_refl _))
  have HOK := Lib.hid hok
  have hlt := fun w' hr => light_any d (.slice ai d.its.length ci) (.slice aw d.ws.length cw) w' hr
  unfold dealV at hlt ⊢
  have HLT := Lib.hid hlt
  have HLV := Lib.hid lives17
  clear hr hb0 hok hlt HT0 HK0
  go_enter Try.func5, Try.ntmps5
  go_upto_region 1 with fail
  generalize w.alloc (.cells #[.slice ai d.its.length ci, .slice aw d.ws.length cw, .int .i64 d.root] 25) = w1 at hk HR HB0 HT HTK ⊢
  generalize w.heap.size = D at hk ⊢
  have HK := Lib.hid hk
  obtain ⟨x0, x1, x2⟩ := hk
  go_wp2_with fail
  refine (HLT.out _ HR.out).mono ?_
  rintro e w2 ⟨lb, rfl, hld, hb2⟩
  have HLD := Lib.hid hld
  have HB2 := Lib.hid hb2
  clear x0 x1 x2 hld hb2
  cases lb
  · go_wp2_with fail
    refine (HLV.out _).mono ?_
    rintro e wz ⟨rfl, hbz⟩
    have HZ := Lib.hid (HB0.out.trans ((HB2.out.trans (hbz.mono HB2.out.size)).mono HB0.out.size))
    clear hbz
    go_wp2
    go_ret
    exact ⟨rfl, HZ.out⟩
  obtain ⟨x0, x1, x2⟩ := HK.out.below HB2.out (Nat.le_refl _)
  obtain ⟨hl1, hl2, hl3⟩ := HLD.out rfl
  clear hl3
  by_cases hbig : 60 < ts.length
  case pos =>
    have hbigI : (60 : Int) < ts.length := by omega
    clear hbig
    go_wp2_with fail
    refine (HLV.out _).mono ?_
    rintro e wz ⟨rfl, hbz⟩
    have HZ := Lib.hid (HB0.out.trans ((HB2.out.trans (hbz.mono HB2.out.size)).mono HB0.out.size))
    clear hbz
    go_wp2
    go_ret
    exact ⟨rfl, HZ.out⟩
  have hsm : (ts.length : Int) ≤ 60 := by omega
  have hds : decide ((60 : Int) < ts.length) = false := by simpa using hsm
  clear hbig
  by_cases hbig : 60 < tk.length
  case pos =>
    have hbigI : (60 : Int) < tk.length := by omega
    clear hbig
    go_wp2_with fail
    refine (HLV.out _).mono ?_
    rintro e wz ⟨rfl, hbz⟩
    have HZ := Lib.hid (HB0.out.trans ((HB2.out.trans (hbz.mono HB2.out.size)).mono HB0.out.size))
    clear hbz
    go_wp2
    go_ret
    exact ⟨rfl, HZ.out⟩
  have hsm2 : (tk.length : Int) ≤ 60 := by omega
  have hds2 : decide ((60 : Int) < tk.length) = false := by simpa using hsm2
  clear hbig
  go_upto_region 3 with fail
  refine wp_region_held_drew (S := (fun w' => w'.cell? ⟨D, 0, none⟩ = some (.slice ai d.its.length ci) ∧ (w'.cell? ⟨D, 1, none⟩ = some (.slice aw d.ws.length cw) ∧ (w'.cell? ⟨D, 2, none⟩ = some (.int .i64 d.root) ∧ Below w1.heap.size w1 w')))) (by kernel_rfl) (by (try dsimp only); exact ⟨x0, x1, x2, HB2.out.drew⟩) (fun hHeld => ?_)
  refine wpAnyH_take (i := 0) (v := ?_) (by (simp only [List.getElem?_toArray, List.getElem?_cons_succ, List.getElem?_cons_zero]; rfl)) (by kernel_rfl) (by kernel_rfl) (by kernel_rfl) (by intro _ _ _ h; exact h) (Or.inl ⟨by rfl, ?_⟩) (by assumption) ?_
  rotate_left
  · (intro w hSw; (try dsimp only at hSw); go_simp; try (with_reducible rfl))
  simp only [Act.put, List.setIfInBounds_toArray, List.set_cons_zero, List.set_cons_succ]
  refine wpAnyH_take (i := 1) (v := ?_) (by (simp only [List.getElem?_toArray, List.getElem?_cons_succ, List.getElem?_cons_zero]; rfl)) (by kernel_rfl) (by kernel_rfl) (by kernel_rfl) (by intro _ _ _ h; exact h) (Or.inl ⟨by rfl, ?_⟩) (by assumption) ?_
  rotate_left
  · (intro w hSw; (try dsimp only at hSw); go_simp; try (with_reducible rfl))
  simp only [Act.put, List.setIfInBounds_toArray, List.set_cons_zero, List.set_cons_succ]
  refine wpAnyH_take (i := 3) (v := ?_) (by (simp only [List.getElem?_toArray, List.getElem?_cons_succ, List.getElem?_cons_zero]; rfl)) (by kernel_rfl) (by kernel_rfl) (by kernel_rfl) (by intro _ _ _ h; exact h) (Or.inl ⟨by rfl, ?_⟩) (by assumption) ?_
  rotate_left
  · (intro w hSw; (try dsimp only at hSw); go_simp; try (with_reducible rfl))
  simp only [Act.put, List.setIfInBounds_toArray, List.set_cons_zero, List.set_cons_succ]
  refine wpAnyH_take (i := 4) (v := ?_) (by (simp only [List.getElem?_toArray, List.getElem?_cons_succ, List.getElem?_cons_zero]; rfl)) (by kernel_rfl) (by kernel_rfl) (by kernel_rfl) (by intro _ _ _ h; exact h) (Or.inl ⟨by rfl, ?_⟩) (by assumption) ?_
  rotate_left
  · (intro w hSw; (try dsimp only at hSw); go_simp; try (with_reducible rfl))
  simp only [Act.put, List.setIfInBounds_toArray, List.set_cons_zero, List.set_cons_succ]
  have hop := HTA.out _ (HR.out.below hHeld.2.2.2 (Nat.le_refl _)) (HT.out.below hHeld.2.2.2 (Nat.le_refl _))
  refine wpAnyH_ready (rs := [2]) (by kernel_rfl) (by simp) ?_
  refine AllReadyH.cons (by (simp only [List.getElem?_toArray, List.getElem?_cons_succ, List.getElem?_cons_zero]; rfl)) (fun K hK => ?_) AllReadyH.nil
  go_simp
  go_at_call 15; refine hop.mono ?_; rintro e w3 ⟨v, L, rfl, hL, hb3, hcase⟩; obtain ⟨la, lc, rfl⟩ := hL.shape
  refine hK.out _ _ (by (try dsimp only); exact keepD (w1 := _) hHeld hb3) (fun hHeld => ?_)
  clear hK K
  try simp only [Act.put, List.setIfInBounds_toArray, List.set_cons_zero, List.set_cons_succ]
  have hop2 := HTB.out _ (HR.out.below hHeld.2.2.2 (Nat.le_refl _)) (HT.out.below hHeld.2.2.2 (Nat.le_refl _))
  clear hop hb3
  refine wpAnyH_ready (rs := [5]) (by kernel_rfl) (by simp) ?_
  refine AllReadyH.cons (by (simp only [List.getElem?_toArray, List.getElem?_cons_succ, List.getElem?_cons_zero]; rfl)) (fun K hK => ?_) AllReadyH.nil
  go_simp
  go_at_call 16; refine hop2.mono ?_; rintro e w4 ⟨v', L', rfl, hL', hb4, hcase'⟩; obtain ⟨lb, lc', rfl⟩ := hL'.shape; have hLL := (same_tk hcase hcase').symm; subst hLL
  refine hK.out _ _ (by (try dsimp only); exact keepD (w1 := _) hHeld hb4) (fun hHeld => ?_)
  clear hK K
  try simp only [Act.put, List.setIfInBounds_toArray, List.set_cons_zero, List.set_cons_succ]
  clear hop2
  refine wpAnyH_take (i := 6) (v := ?_) (by (simp only [List.getElem?_toArray, List.getElem?_cons_succ, List.getElem?_cons_zero]; rfl)) (by kernel_rfl) (by kernel_rfl) (by kernel_rfl) (by intro _ _ _ h; exact h) (Or.inl ⟨by rfl, ?_⟩) (by assumption) ?_
  rotate_left
  · (intro w hSw; (try dsimp only at hSw); go_simp; try (with_reducible rfl))
  simp only [Act.put, List.setIfInBounds_toArray, List.set_cons_zero, List.set_cons_succ]
  refine wpAnyH_take (i := 7) (v := ?_) (by (simp only [List.getElem?_toArray, List.getElem?_cons_succ, List.getElem?_cons_zero]; rfl)) (by kernel_rfl) (by kernel_rfl) (by kernel_rfl) (by intro _ _ _ h; exact h) (Or.inl ⟨by rfl, ?_⟩) (by assumption) ?_
  rotate_left
  · (intro w hSw; (try dsimp only at hSw); go_simp; try (with_reducible rfl))
  simp only [Act.put, List.setIfInBounds_toArray, List.set_cons_zero, List.set_cons_succ]
  refine wpAnyH_done (by kernel_rfl) ?_ _
  obtain ⟨x0', x1', x2', hb4w⟩ := hHeld
  have HB4 := Lib.hid hb4w
  have HLA := Lib.hid (hL.below hb4 (Nat.le_refl _))
  have HLB := Lib.hid hL'
  have HSM := Lib.hid (tk_small hcase)
  have hls := (tk_small hcase).1
  clear x0 x1 x2 x0' x1' x2' hb4w hL hL' hcase hcase' hb4
  have hlI : (L.length : Int) ≤ 40 := by omega
  go_wp2_with fail
  go_loopw [37] (fun i wr => ∃ k : Nat, k ≤ L.length ∧ i = .int .i64 k ∧ Below w4.heap.size w4 wr) (fun i _ => L.length - (intOf i).toNat)
  case atStart => exact ⟨0, by omega, rfl, Below.refl _ _⟩
  case round =>
    obtain ⟨k, hk, rfl, hb⟩ := hrel
    have HB := Lib.hid hb
    by_cases hlt : k < L.length
    · obtain ⟨n, hn⟩ : ∃ n, L[k]? = some n := ⟨_, List.getElem?_eq_getElem hlt⟩
      obtain ⟨ba, rfl, hca⟩ := (HLA.out.below hb (Nat.le_refl _)).elem hn
      obtain ⟨bb, rfl, hcb⟩ := (HLB.out.below hb (Nat.le_refl _)).elem hn
      unfold iV at hca hcb
      have hltI : (k : Int) < (L.length : Int) := by omega
      clear hn hb
      go_upto_region 9 with fail
      go_quiet (fail)
      go_wp2
      go_roundw
      case rel => exact ⟨k + 1, by omega, by go_num, below_drewN HB.out _⟩
      case measure => simp [intOf]; omega
    · have hle : (L.length : Int) ≤ k := by omega
      have HX := Lib.hid (HB4.out.trans (HB.out.mono HB4.out.size))
      obtain ⟨x0, x1, x2⟩ := HK.out.below HX.out (Nat.le_refl _)
      have hr1 := HRI.out tk (.slice ka tk.length kc) HWF.out (by omega)
      have hr2 := HRR.out tk (.slice ka tk.length kc)
      have hr3 := HRI.out L (.slice la L.length lc) (fun n hn => by have := HSM.out.2 n hn; omega) (by omega)
      have hr4 := HRR.out L (.slice lb L.length lc')
      generalize rightB d tk = b1 at hr1 hr2
      generalize rightB d L = b2 at hr3 hr4
      have HR1 := Lib.hid hr1
      have HR2 := Lib.hid hr2
      have HR3 := Lib.hid hr3
      have HR4 := Lib.hid hr4
      have hbb1 : (b1 == b1) = true := by simp
      have hbb2 : (b2 == b2) = true := by simp
      have HL3 := Lib.hid (fun (wz : World) (hz : Below wr.heap.size wr wz) => (HLA.out.below HB.out (Nat.le_refl _)).below hz (Nat.le_refl _))
      have HL4 := Lib.hid (fun (wz : World) (hz : Below wr.heap.size wr wz) => (HLB.out.below HB.out (Nat.le_refl _)).below hz (Nat.le_refl _))
      have HXT := Lib.hid (fun (wz : World) (hz : Below wr.heap.size wr wz) => HX.out.trans (hz.mono HX.out.size))
      clear hr1 hr2 hr3 hr4 hb
      go_upto_region 12 with fail
      refine wp_region_held_drew (S := (fun w' => w'.cell? ⟨D, 0, none⟩ = some (.slice ai d.its.length ci) ∧ (w'.cell? ⟨D, 1, none⟩ = some (.slice aw d.ws.length cw) ∧ (w'.cell? ⟨D, 2, none⟩ = some (.int .i64 d.root) ∧ Below wr.heap.size wr w')))) (by kernel_rfl) (by (try dsimp only); exact ⟨x0, x1, x2, (Below.refl _ _).drew⟩) (fun hHeld => ?_)
      refine wpAnyH_take (i := 0) (v := ?_) (by (simp only [List.getElem?_toArray, List.getElem?_cons_succ, List.getElem?_cons_zero]; rfl)) (by kernel_rfl) (by kernel_rfl) (by kernel_rfl) (by intro _ _ _ h; exact h) (Or.inl ⟨by rfl, ?_⟩) (by assumption) ?_
      rotate_left
      · (intro w hSw; (try dsimp only at hSw); go_simp; try (with_reducible rfl))
      simp only [Act.put, List.setIfInBounds_toArray, List.set_cons_zero, List.set_cons_succ]
      refine wpAnyH_take (i := 1) (v := ?_) (by (simp only [List.getElem?_toArray, List.getElem?_cons_succ, List.getElem?_cons_zero]; rfl)) (by kernel_rfl) (by kernel_rfl) (by kernel_rfl) (by intro _ _ _ h; exact h) (Or.inl ⟨by rfl, ?_⟩) (by assumption) ?_
      rotate_left
      · (intro w hSw; (try dsimp only at hSw); go_simp; try (with_reducible rfl))
      simp only [Act.put, List.setIfInBounds_toArray, List.set_cons_zero, List.set_cons_succ]
      refine wpAnyH_take (i := 3) (v := ?_) (by (simp only [List.getElem?_toArray, List.getElem?_cons_succ, List.getElem?_cons_zero]; rfl)) (by kernel_rfl) (by kernel_rfl) (by kernel_rfl) (by intro _ _ _ h; exact h) (Or.inl ⟨by rfl, ?_⟩) (by assumption) ?_
      rotate_left
      · (intro w hSw; (try dsimp only at hSw); go_simp; try (with_reducible rfl))
      simp only [Act.put, List.setIfInBounds_toArray, List.set_cons_zero, List.set_cons_succ]
      refine wpAnyH_take (i := 4) (v := ?_) (by (simp only [List.getElem?_toArray, List.getElem?_cons_succ, List.getElem?_cons_zero]; rfl)) (by kernel_rfl) (by kernel_rfl) (by kernel_rfl) (by intro _ _ _ h; exact h) (Or.inl ⟨by rfl, ?_⟩) (by assumption) ?_
      rotate_left
      · (intro w hSw; (try dsimp only at hSw); go_simp; try (with_reducible rfl))
      simp only [Act.put, List.setIfInBounds_toArray, List.set_cons_zero, List.set_cons_succ]
      have hop := HR1.out _ (HR.out.below (HXT.out _ hHeld.2.2.2) (Nat.le_refl _)) (HTK.out.below (HXT.out _ hHeld.2.2.2) (Nat.le_refl _))
      refine wpAnyH_ready (rs := [2]) (by kernel_rfl) (by simp) ?_
      refine AllReadyH.cons (by (simp only [List.getElem?_toArray, List.getElem?_cons_succ, List.getElem?_cons_zero]; rfl)) (fun K hK => ?_) AllReadyH.nil
      go_simp
      go_at_call 17; refine hop.mono ?_; rintro e w7 ⟨rfl, hb7⟩
      refine hK.out _ _ (by (try dsimp only); exact keepD (w1 := _) hHeld hb7) (fun hHeld => ?_)
      clear hK K
      try simp only [Act.put, List.setIfInBounds_toArray, List.set_cons_zero, List.set_cons_succ]
      have hop2 := HR2.out _ (HR.out.below (HXT.out _ hHeld.2.2.2) (Nat.le_refl _)) (HTK.out.below (HXT.out _ hHeld.2.2.2) (Nat.le_refl _))
      clear hop hb7
      refine wpAnyH_ready (rs := [5]) (by kernel_rfl) (by simp) ?_
      refine AllReadyH.cons (by (simp only [List.getElem?_toArray, List.getElem?_cons_succ, List.getElem?_cons_zero]; rfl)) (fun K hK => ?_) AllReadyH.nil
      go_simp
      go_at_call 18; refine hop2.mono ?_; rintro e w8 ⟨rfl, hb8⟩
      refine hK.out _ _ (by (try dsimp only); exact keepD (w1 := _) hHeld hb8) (fun hHeld => ?_)
      clear hK K
      try simp only [Act.put, List.setIfInBounds_toArray, List.set_cons_zero, List.set_cons_succ]
      refine wpAnyH_take (i := 6) (v := ?_) (by (simp only [List.getElem?_toArray, List.getElem?_cons_succ, List.getElem?_cons_zero]; rfl)) (by kernel_rfl) (by kernel_rfl) (by kernel_rfl) (by intro _ _ _ h; exact h) (Or.inl ⟨by rfl, ?_⟩) (by assumption) ?_
      rotate_left
      · (intro w hSw; (try dsimp only at hSw); go_simp; try (with_reducible rfl))
      simp only [Act.put, List.setIfInBounds_toArray, List.set_cons_zero, List.set_cons_succ]
      refine wpAnyH_take (i := 7) (v := ?_) (by (simp only [List.getElem?_toArray, List.getElem?_cons_succ, List.getElem?_cons_zero]; rfl)) (by kernel_rfl) (by kernel_rfl) (by kernel_rfl) (by intro _ _ _ h; exact h) (Or.inl ⟨by rfl, ?_⟩) (by assumption) ?_
      rotate_left
      · (intro w hSw; (try dsimp only at hSw); go_simp; try (with_reducible rfl))
      simp only [Act.put, List.setIfInBounds_toArray, List.set_cons_zero, List.set_cons_succ]
      refine wpAnyH_take (i := 8) (v := ?_) (by (simp only [List.getElem?_toArray, List.getElem?_cons_succ, List.getElem?_cons_zero]; rfl)) (by kernel_rfl) (by kernel_rfl) (by kernel_rfl) (by intro _ _ _ h; exact h) (Or.inl ⟨by rfl, ?_⟩) (by assumption) ?_
      rotate_left
      · (intro w hSw; (try dsimp only at hSw); go_simp; try (with_reducible rfl))
      simp only [Act.put, List.setIfInBounds_toArray, List.set_cons_zero, List.set_cons_succ]
      refine wpAnyH_take (i := 9) (v := ?_) (by (simp only [List.getElem?_toArray, List.getElem?_cons_succ, List.getElem?_cons_zero]; rfl)) (by kernel_rfl) (by kernel_rfl) (by kernel_rfl) (by intro _ _ _ h; exact h) (Or.inl ⟨by rfl, ?_⟩) (by assumption) ?_
      rotate_left
      · (intro w hSw; (try dsimp only at hSw); go_simp; try (with_reducible rfl))
      simp only [Act.put, List.setIfInBounds_toArray, List.set_cons_zero, List.set_cons_succ]
      refine wpAnyH_take (i := 11) (v := ?_) (by (simp only [List.getElem?_toArray, List.getElem?_cons_succ, List.getElem?_cons_zero]; rfl)) (by kernel_rfl) (by kernel_rfl) (by kernel_rfl) (by intro _ _ _ h; exact h) (Or.inl ⟨by rfl, ?_⟩) (by assumption) ?_
      rotate_left
      · (intro w hSw; (try dsimp only at hSw); go_simp; try (with_reducible rfl))
      simp only [Act.put, List.setIfInBounds_toArray, List.set_cons_zero, List.set_cons_succ]
      refine wpAnyH_take (i := 12) (v := ?_) (by (simp only [List.getElem?_toArray, List.getElem?_cons_succ, List.getElem?_cons_zero]; rfl)) (by kernel_rfl) (by kernel_rfl) (by kernel_rfl) (by intro _ _ _ h; exact h) (Or.inl ⟨by rfl, ?_⟩) (by assumption) ?_
      rotate_left
      · (intro w hSw; (try dsimp only at hSw); go_simp; try (with_reducible rfl))
      simp only [Act.put, List.setIfInBounds_toArray, List.set_cons_zero, List.set_cons_succ]
      have hop3 := HR3.out _ (HR.out.below (HXT.out _ hHeld.2.2.2) (Nat.le_refl _)) (HL3.out _ hHeld.2.2.2)
      clear hop2 hb8
      refine wpAnyH_ready (rs := [10]) (by kernel_rfl) (by simp) ?_
      refine AllReadyH.cons (by (simp only [List.getElem?_toArray, List.getElem?_cons_succ, List.getElem?_cons_zero]; rfl)) (fun K hK => ?_) AllReadyH.nil
      go_simp
      go_at_call 17; refine hop3.mono ?_; rintro e w9 ⟨rfl, hb9⟩
      refine hK.out _ _ (by (try dsimp only); exact keepD (w1 := _) hHeld hb9) (fun hHeld => ?_)
      clear hK K
      try simp only [Act.put, List.setIfInBounds_toArray, List.set_cons_zero, List.set_cons_succ]
      have hop4 := HR4.out _ (HR.out.below (HXT.out _ hHeld.2.2.2) (Nat.le_refl _)) (HL4.out _ hHeld.2.2.2)
      clear hop3 hb9
      refine wpAnyH_ready (rs := [13]) (by kernel_rfl) (by simp) ?_
      refine AllReadyH.cons (by (simp only [List.getElem?_toArray, List.getElem?_cons_succ, List.getElem?_cons_zero]; rfl)) (fun K hK => ?_) AllReadyH.nil
      go_simp
      go_at_call 18; refine hop4.mono ?_; rintro e wa ⟨rfl, hba⟩
      refine hK.out _ _ (by (try dsimp only); exact keepD (w1 := _) hHeld hba) (fun hHeld => ?_)
      clear hK K
      try simp only [Act.put, List.setIfInBounds_toArray, List.set_cons_zero, List.set_cons_succ]
      refine wpAnyH_take (i := 14) (v := ?_) (by (simp only [List.getElem?_toArray, List.getElem?_cons_succ, List.getElem?_cons_zero]; rfl)) (by kernel_rfl) (by kernel_rfl) (by kernel_rfl) (by intro _ _ _ h; exact h) (Or.inl ⟨by rfl, ?_⟩) (by assumption) ?_
      rotate_left
      · (intro w hSw; (try dsimp only at hSw); go_simp; try (with_reducible rfl))
      simp only [Act.put, List.setIfInBounds_toArray, List.set_cons_zero, List.set_cons_succ]
      refine wpAnyH_take (i := 15) (v := ?_) (by (simp only [List.getElem?_toArray, List.getElem?_cons_succ, List.getElem?_cons_zero]; rfl)) (by kernel_rfl) (by kernel_rfl) (by kernel_rfl) (by intro _ _ _ h; exact h) (Or.inl ⟨by rfl, ?_⟩) (by assumption) ?_
      rotate_left
      · (intro w hSw; (try dsimp only at hSw); go_simp; try (with_reducible rfl))
      simp only [Act.put, List.setIfInBounds_toArray, List.set_cons_zero, List.set_cons_succ]
      refine wpAnyH_take (i := 16) (v := ?_) (by (simp only [List.getElem?_toArray, List.getElem?_cons_succ, List.getElem?_cons_zero]; rfl)) (by kernel_rfl) (by kernel_rfl) (by kernel_rfl) (by intro _ _ _ h; exact h) (Or.inl ⟨by rfl, ?_⟩) (by assumption) ?_
      rotate_left
      · (intro w hSw; (try dsimp only at hSw); go_simp; try (with_reducible rfl))
      simp only [Act.put, List.setIfInBounds_toArray, List.set_cons_zero, List.set_cons_succ]
      have hop5 := HLV.out wa
      clear hop4 hba
      refine wpAnyH_ready (rs := [17]) (by kernel_rfl) (by simp) ?_
      refine AllReadyH.cons (by (simp only [List.getElem?_toArray, List.getElem?_cons_succ, List.getElem?_cons_zero]; rfl)) (fun K hK => ?_) AllReadyH.nil
      go_simp
      go_at_call 10; refine hop5.mono ?_; rintro e wb ⟨rfl, hbb⟩
      refine hK.out _ _ (by (try dsimp only); exact keepD (w1 := _) hHeld hbb) (fun hHeld => ?_)
      clear hK K
      try simp only [Act.put, List.setIfInBounds_toArray, List.set_cons_zero, List.set_cons_succ]
      refine wpAnyH_take (i := 18) (v := ?_) (by (simp only [List.getElem?_toArray, List.getElem?_cons_succ, List.getElem?_cons_zero]; rfl)) (by kernel_rfl) (by kernel_rfl) (by kernel_rfl) (by intro _ _ _ h; exact h) (Or.inl ⟨by rfl, ?_⟩) (by assumption) ?_
      rotate_left
      · (intro w hSw; (try dsimp only at hSw); go_simp; try (with_reducible rfl))
      simp only [Act.put, List.setIfInBounds_toArray, List.set_cons_zero, List.set_cons_succ]
      refine wpAnyH_take (i := 19) (v := ?_) (by (simp only [List.getElem?_toArray, List.getElem?_cons_succ, List.getElem?_cons_zero]; rfl)) (by kernel_rfl) (by kernel_rfl) (by kernel_rfl) (by intro _ _ _ h; exact h) (Or.inl ⟨by rfl, ?_⟩) (by assumption) ?_
      rotate_left
      · (intro w hSw; (try dsimp only at hSw); go_simp; try (with_reducible rfl))
      simp only [Act.put, List.setIfInBounds_toArray, List.set_cons_zero, List.set_cons_succ]
      refine wpAnyH_done (by kernel_rfl) ?_ _
      have HZ := Lib.hid (HB0.out.trans ((HXT.out _ hHeld.2.2.2).mono HB0.out.size))
      clear hHeld hop5 hbb
      go_wp2
      go_ret
      exact ⟨rfl, HZ.out⟩

set_option maxRecDepth 100000 in
theorem lifted_CnfTakes (os : Os) (started : os.Started) (H : Type) (enc : TypeId × Value → H) :
    ReturnsInHanded {} Try.checked os 5 .any (Rows.cnfTakesSpec.pre6 enc Try.prog Try.f5 Rows.cnfTakesRow.domain false) (Rows.cnfTakesSpec.post enc Try.prog Try.f5 false true false false) := by
  refine returnsInHanded_of_change (C := Try.checked) own_knob started (by kernel_rfl) Try.func5
    (ChangeSpec.witness6 (enc := enc) (C := Try.checked) false ⟨#[], #[.agg #[.slice none 0 0, .slice none 0 0, .int .i64 0], .slice none 0 0, .slice none 0 0], []⟩ 8 (by kernel_rfl) (by kernel_rfl) (by kernel_rfl) (by kernel_rfl)) ?_
  intro W base args ds gs before hval0 hW _ _
  have hval : ∀ (j : Nat) t v, Try.f5.params[j]? = some t → args[j]? = some v → Value.okWide Try.prog W .any base t v := hval0
  have hW' := hW
  obtain ⟨p, q, hA0, hV, rfl, _, _⟩ := hW
  have hA : DataW.TrodAll enc Try.prog W 0 (fun _ => true) true Try.f5.params.toList args.toList ds p := hA0
  rw [Try.params5] at hA hval
  obtain ⟨v0, vs0, d0, ds0, p0, q0, hargs, rfl, rfl, h0, r0⟩ := trodAll_cons hA
  obtain ⟨v1, vs1, d1, ds1, p1, q1, rfl, rfl, rfl, h1, r1⟩ := trodAll_cons r0
  obtain ⟨v2, vs2, d2, ds2, p2, q2, rfl, rfl, rfl, h2, r2⟩ := trodAll_cons r1
  obtain ⟨rfl, rfl, rfl⟩ := trodAll_nil r2
  obtain rfl : args = #[v0, v1, v2] := by cases args; simp_all
  obtain ⟨rfl, rfl⟩ := trodVars_none hV
  obtain ⟨vi0, vw0, D0, rfl, rd0, ok0, lo0, hi0⟩ := open_deal (hval 0 25 v0 rfl rfl) h0
  obtain ⟨l1, g1⟩ := open_reads_bools (hval 1 40 v1 rfl rfl) h1
  obtain ⟨l2, g2, w2⟩ := open_reads_ints (hval 2 39 v2 rfl rfl) h2
  clear hA0 hval0
  refine (walk_CnfTakes vi0 vw0 D0 ok0 v1 l1 v2 l2 w2 W rd0 g1 g2).mono fun e W' ⟨he, hb⟩ => ?_
  subst he
  exact ⟨_, rfl, law_post (by kernel_rfl) rfl rfl rfl hW' hb⟩

/-- the statement of CnfTakes -/
theorem proved_CnfTakes : Rows.CnfTakesSaid :=
  OpenClaim.holds_of_wide 5 Try.f5 rfl rfl rfl rfl rfl rfl rfl ⟨rfl, rfl, rfl, rfl, rfl⟩ rfl rfl rfl rfl rfl (by kernel_rfl) Try.func5 (by kernel_rfl)
    (of_decide_eq_true (by kernel_rfl)) (by unfold Func.isWrapper; first | (rw [if_pos (by decide +kernel)]; kernel_rfl) | (rw [if_neg (by decide +kernel)]; exact ⟨rfl, rfl⟩))
    (fun os started H enc _ => lifted_CnfTakes os started H enc)
end Go.Proofs.Ytgfgajekegfdgaa
