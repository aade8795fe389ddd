/-
  Layer 17: the contracts of cnf.May (and its closure) and of the answer's May. Own work.
-/
import Derived.Test.YtgfgajekegfdgaaMem17
namespace Go.Proofs.Ytgfgajekegfdgaa
set_option linter.unusedVariables false
set_option linter.unusedSimpArgs false
open Go.RowKit

theorem isItem_any (B : Nat) (n : Int) (ai : Option Addr) (N ci : Nat) (hN : N ≤ 9223372036854775807) (w : World) (hc : w.cell? ⟨B, 0, none⟩ = some (.slice ai N ci)) :
    Calls Try.prog 21 #[.int .i64 n, .pointer (some ⟨B, 0, none⟩)] w fun e w' => e = .returned (.bool (inB N n)) ∧ w = w' := by
  have hNI : (N : Int) ≤ 9223372036854775807 := by omega
  by_cases h0 : 0 ≤ n
  · by_cases h1 : n < N
    · rw [inB_yes h0 h1]
      go_enter Try.func21, Try.ntmps21
      go_wp2
      go_ret
      exact ⟨rfl, rfl⟩
    · rw [inB_high (by omega)]
      have h2 : (N : Int) ≤ n := by omega
      have hd : decide (n < (N : Int)) = false := by simpa using h2
      clear h1 h2
      go_enter Try.func21, Try.ntmps21
      go_wp2
      go_ret
      exact ⟨rfl, rfl⟩
  · rw [inB_low (by omega)]
    have hd : decide (0 ≤ n) = false := by simpa using h0
    clear h0
    go_enter Try.func21, Try.ntmps21
    go_wp2
    go_ret
    exact ⟨rfl, rfl⟩
set_option maxRecDepth 100000 in
set_option maxHeartbeats 4000000 in
theorem May_any (d : Dl) (vi vw : Value) (w : World) (hr : RdD w vi vw d) :
    Calls Try.prog 11 #[dealV vi vw d.root] w fun e w' => e = .returned (.int .i64 (mayD d)) ∧ Below w.heap.size w w' := by
  obtain ⟨ai, ci, aw, cw, rfl, rfl⟩ := hr.shape
  have hli := hr.i.len
  have hlw := RdOf.len hr.w
  have hliI : (d.its.length : Int) ≤ 9223372036854775807 := by omega
  have hlwI : (d.ws.length : Int) ≤ 9223372036854775807 := by omega
  have hb0 : Below w.heap.size w (w.alloc (.cells #[.slice ai d.its.length ci, .slice aw d.ws.length cw, .int .i64 d.root] 25)) := (Below.refl w.heap.size w).alloc (Nat.le_refl _) _
  have hk := DlIn.new w (.slice ai d.its.length ci) (.slice aw d.ws.length cw) d.root
  have HW := Lib.hid (hr.w.below hb0 (Nat.le_refl _))
  have HB0 := Lib.hid hb0
  clear hr hb0
  unfold dealV
  go_enter Try.func11, Try.ntmps11
  go_upto_region 1 with fail
  generalize w.alloc (.cells #[.slice ai d.its.length ci, .slice aw d.ws.length cw, .int .i64 d.root] 25) = w1 at hk HW HB0 ⊢
  generalize w.heap.size = D at hk ⊢
  obtain ⟨x0, x1, x2⟩ := hk
  have hit := fun n => isItem_any D n ai d.its.length ci hli w1 x0
  have HIT := Lib.hid hit
  clear hit
  by_cases hbig : 1024 < d.its.length
  · have HM := Lib.hid (mayD_big hbig)
    have hbigI : (1024 : Int) < d.its.length := by omega
    clear hbig
    go_wp2
    go_ret
    exact ⟨ret_int HM.out.symm, HB0.out⟩
  have hsm : (d.its.length : Int) ≤ 1024 := by omega
  have HBIG := Lib.hid hbig
  clear hbig
  have hit := HIT.out d.root
  have HMR := Lib.hid (fun h => mayD_root (d := d) HBIG.out h)
  have hir := inB_iff (n := d.its.length) (k := d.root)
  have HIR := Lib.hid hir
  clear hir
  cases hrt : inB d.its.length d.root
  · have HM := Lib.hid (HMR.out hrt)
    rw [hrt] at hit
    have HH := Lib.hid hit
    clear hit hrt
    go_wp2_with (go_at_call 21; refine HH.out.mono ?_; rintro e w' ⟨rfl, rfl⟩)
    go_ret
    exact ⟨ret_int HM.out.symm, HB0.out⟩
  rw [hrt] at hit
  have HH := Lib.hid hit
  have hroot := hrt
  clear hit hrt
  have HROOT := Lib.hid hroot
  clear hroot
  by_cases hlen : d.ws.length = d.its.length
  case neg =>
    have HM := Lib.hid (mayD_len HBIG.out hlen)
    have hne : ((d.ws.length : Int) != (d.its.length : Int)) = true := by simpa using (fun e : (d.ws.length : Int) = d.its.length => hlen (by omega))
    clear hlen
    go_wp2_with (go_at_call 21; refine HH.out.mono ?_; rintro e w' ⟨rfl, rfl⟩)
    go_ret
    exact ⟨ret_int HM.out.symm, HB0.out⟩
  have hne : ((d.ws.length : Int) != (d.its.length : Int)) = false := by rw [hlen]; simp
  have HLEN := Lib.hid hlen
  clear hlen
  go_wp2_with (go_at_call 21; refine HH.out.mono ?_; rintro e w' ⟨rfl, rfl⟩)
  clear hne
  go_loop [32] (fun i => ∃ k : Nat, k ≤ d.ws.length ∧ i = .int .i64 k ∧ (d.ws.take k).all (allWs d.its.length) = true) (fun i => d.ws.length - (intOf i).toNat)
  case atStart => exact ⟨0, by omega, rfl, rfl⟩
  case round =>
    obtain ⟨k, hkl, rfl, hall⟩ := hrel
    have HALL := Lib.hid hall
    clear hall
    by_cases hlt : k < d.ws.length
    · obtain ⟨x, hx⟩ : ∃ x, d.ws[k]? = some x := ⟨_, List.getElem?_eq_getElem hlt⟩
      obtain ⟨b, r, rfl, hc, hrx⟩ := RdOf.elem HW.out hx
      obtain ⟨xa, xc, rfl⟩ := RdOf.shape hrx
      have hlx := RdOf.len hrx
      have hlxI : (x.length : Int) ≤ 9223372036854775807 := by omega
      have HRX := Lib.hid hrx
      have HX := Lib.hid hx
      clear hrx hx
      go_wp2_with fail
      go_loop [38] (fun i => ∃ q : Nat, q ≤ x.length ∧ i = .int .i64 q ∧ (x.take q).all (allW d.its.length) = true) (fun i => x.length - (intOf i).toNat)
      case atStart => exact ⟨0, by omega, rfl, rfl⟩
      case round =>
        obtain ⟨q, hql, rfl, hall⟩ := hrel
        have HALQ := Lib.hid hall
        clear hall
        by_cases hlt2 : q < x.length
        · obtain ⟨y, hy⟩ : ∃ y, x[q]? = some y := ⟨_, List.getElem?_eq_getElem hlt2⟩
          obtain ⟨b2, r2, rfl, hc2, hry⟩ := RdOf.elem HRX.out hy
          obtain ⟨ya, yc, rfl⟩ := Reads.shape hry
          have hly := Reads.len hry
          have hlyI : (y.length : Int) ≤ 9223372036854775807 := by omega
          have HRY := Lib.hid hry
          have HY := Lib.hid hy
          clear hry hy
          go_wp2_with fail
          go_loop [44] (fun i => ∃ p : Nat, p ≤ y.length ∧ i = .int .i64 p ∧ (y.take p).all (inB d.its.length) = true) (fun i => y.length - (intOf i).toNat)
          case atStart => exact ⟨0, by omega, rfl, rfl⟩
          case round =>
            obtain ⟨p, hpl, rfl, hall⟩ := hrel
            have HALP := Lib.hid hall
            clear hall
            by_cases hlt3 : p < y.length
            · obtain ⟨n, hn⟩ : ∃ n, y[p]? = some n := ⟨_, List.getElem?_eq_getElem hlt3⟩
              obtain ⟨b3, rfl, hc3⟩ := Reads.elem HRY.out hn
              unfold iV at hc3
              have HSN := Lib.hid (all_snoc hn (inB d.its.length))
              have HN := Lib.hid hn
              clear hn
              have hit := HIT.out n
              cases hin : inB d.its.length n
              · have HM := Lib.hid (mayD_all HBIG.out (all_not HX.out (show allWs d.its.length x = false from all_not HY.out (show allW d.its.length y = false from all_not HN.out hin))))
                rw [hin] at hit
                have HT := Lib.hid hit
                clear hit hin
                go_wp2_with (go_at_call 21; refine HT.out.mono ?_; rintro e w' ⟨rfl, rfl⟩)
                go_ret
                exact ⟨ret_int HM.out.symm, HB0.out⟩
              · rw [hin] at hit
                have HT := Lib.hid hit
                have HIN := Lib.hid hin
                clear hit hin
                go_wp2_with (go_at_call 21; refine HT.out.mono ?_; rintro e w' ⟨rfl, rfl⟩)
                exact ⟨⟨p + 1, by omega, by go_num, by rw [HSN.out, HALP.out, HIN.out]; rfl⟩, by simp [intOf]; omega⟩
            · have hpe : (y.length : Int) ≤ p := by omega
              have HAY := Lib.hid (show allW d.its.length y = true from by have h := HALP.out; rw [List.take_of_length_le (by omega)] at h; exact h)
              have HSQ := Lib.hid (all_snoc HY.out (allW d.its.length))
              go_wp2
              exact ⟨⟨q + 1, by omega, by go_num, by rw [HSQ.out, HALQ.out, HAY.out]; rfl⟩, by simp [intOf]; omega⟩
        · have hqe : (x.length : Int) ≤ q := by omega
          have HAX := Lib.hid (show allWs d.its.length x = true from by have h := HALQ.out; rw [List.take_of_length_le (by omega)] at h; exact h)
          have HSK := Lib.hid (all_snoc HX.out (allWs d.its.length))
          go_wp2
          exact ⟨⟨k + 1, by omega, by go_num, by rw [HSK.out, HALL.out, HAX.out]; rfl⟩, by simp [intOf]; omega⟩
    · have hke : (d.ws.length : Int) ≤ k := by omega
      have HM := Lib.hid (mayD_ok HBIG.out HROOT.out HLEN.out (by have h := HALL.out; rw [List.take_of_length_le (by omega)] at h; exact h))
      go_wp2
      go_ret
      exact ⟨ret_int HM.out.symm, HB0.out⟩
set_option maxRecDepth 100000 in
set_option maxHeartbeats 4000000 in
theorem refMay_any (d : Dl) (vi vw : Value) (w : World) (hr : RdD w vi vw d) :
    Calls Try.prog 12 #[dealV vi vw d.root] w fun e w' => e = .returned (.int .i64 (mayD d)) ∧ Below w.heap.size w w' := by
  obtain ⟨ai, ci, aw, cw, rfl, rfl⟩ := hr.shape
  have hli := hr.i.len
  have hlw := RdOf.len hr.w
  have hliI : (d.its.length : Int) ≤ 9223372036854775807 := by omega
  have hlwI : (d.ws.length : Int) ≤ 9223372036854775807 := by omega
  have hb0 : Below w.heap.size w (w.alloc (.cells #[.slice ai d.its.length ci, .slice aw d.ws.length cw, .int .i64 d.root] 25)) := (Below.refl w.heap.size w).alloc (Nat.le_refl _) _
  have hk := DlIn.new w (.slice ai d.its.length ci) (.slice aw d.ws.length cw) d.root
  have HW := Lib.hid (hr.w.below hb0 (Nat.le_refl _))
  have HB0 := Lib.hid hb0
  clear hr hb0
  unfold dealV
  go_enter Try.func12, Try.ntmps12
  go_upto_region 1 with fail
  generalize w.alloc (.cells #[.slice ai d.its.length ci, .slice aw d.ws.length cw, .int .i64 d.root] 25) = w1 at hk HW HB0 ⊢
  generalize w.heap.size = D at hk ⊢
  obtain ⟨x0, x1, x2⟩ := hk
  have hit := fun n => isItem_any D n ai d.its.length ci hli w1 x0
  have HIT := Lib.hid hit
  clear hit
  by_cases hbig : 1024 < d.its.length
  · have HM := Lib.hid (mayD_big hbig)
    have hbigI : (1024 : Int) < d.its.length := by omega
    clear hbig
    go_wp2
    go_ret
    exact ⟨ret_int HM.out.symm, HB0.out⟩
  have hsm : (d.its.length : Int) ≤ 1024 := by omega
  have HBIG := Lib.hid hbig
  clear hbig
  have hit := HIT.out d.root
  have HMR := Lib.hid (fun h => mayD_root (d := d) HBIG.out h)
  have hir := inB_iff (n := d.its.length) (k := d.root)
  have HIR := Lib.hid hir
  clear hir
  clear hit
  by_cases hr0 : d.root < 0
  · have HM := Lib.hid (HMR.out (inB_low hr0))
    go_wp2
    go_ret
    exact ⟨ret_int HM.out.symm, HB0.out⟩
  have hr0' : 0 ≤ d.root := by omega
  have hd0 : decide (d.root < 0) = false := by simpa using hr0'
  by_cases hr1 : (d.its.length : Int) ≤ d.root
  · have HM := Lib.hid (HMR.out (inB_high hr1))
    clear hr0
    go_wp2
    go_ret
    exact ⟨ret_int HM.out.symm, HB0.out⟩
  have hr1' : d.root < d.its.length := by omega
  have hd1 : decide ((d.its.length : Int) ≤ d.root) = false := by simpa using hr1'
  have hroot := inB_yes hr0' hr1'
  clear hr0 hr1
  have HROOT := Lib.hid hroot
  clear hroot
  by_cases hlen : d.ws.length = d.its.length
  case neg =>
    have HM := Lib.hid (mayD_len HBIG.out hlen)
    have hne : ((d.ws.length : Int) != (d.its.length : Int)) = true := by simpa using (fun e : (d.ws.length : Int) = d.its.length => hlen (by omega))
    clear hlen
    go_wp2_with fail
    go_ret
    exact ⟨ret_int HM.out.symm, HB0.out⟩
  have hne : ((d.ws.length : Int) != (d.its.length : Int)) = false := by rw [hlen]; simp
  have HLEN := Lib.hid hlen
  clear hlen
  go_wp2_with fail
  clear hne
  go_loop [34] (fun i => ∃ k : Nat, k ≤ d.ws.length ∧ i = .int .i64 k ∧ (d.ws.take k).all (allWs d.its.length) = true) (fun i => d.ws.length - (intOf i).toNat)
  case atStart => exact ⟨0, by omega, rfl, rfl⟩
  case round =>
    obtain ⟨k, hkl, rfl, hall⟩ := hrel
    have HALL := Lib.hid hall
    clear hall
    by_cases hlt : k < d.ws.length
    · obtain ⟨x, hx⟩ : ∃ x, d.ws[k]? = some x := ⟨_, List.getElem?_eq_getElem hlt⟩
      obtain ⟨b, r, rfl, hc, hrx⟩ := RdOf.elem HW.out hx
      obtain ⟨xa, xc, rfl⟩ := RdOf.shape hrx
      have hlx := RdOf.len hrx
      have hlxI : (x.length : Int) ≤ 9223372036854775807 := by omega
      have HRX := Lib.hid hrx
      have HX := Lib.hid hx
      clear hrx hx
      go_wp2_with fail
      go_loop [40] (fun i => ∃ q : Nat, q ≤ x.length ∧ i = .int .i64 q ∧ (x.take q).all (allW d.its.length) = true) (fun i => x.length - (intOf i).toNat)
      case atStart => exact ⟨0, by omega, rfl, rfl⟩
      case round =>
        obtain ⟨q, hql, rfl, hall⟩ := hrel
        have HALQ := Lib.hid hall
        clear hall
        by_cases hlt2 : q < x.length
        · obtain ⟨y, hy⟩ : ∃ y, x[q]? = some y := ⟨_, List.getElem?_eq_getElem hlt2⟩
          obtain ⟨b2, r2, rfl, hc2, hry⟩ := RdOf.elem HRX.out hy
          obtain ⟨ya, yc, rfl⟩ := Reads.shape hry
          have hly := Reads.len hry
          have hlyI : (y.length : Int) ≤ 9223372036854775807 := by omega
          have HRY := Lib.hid hry
          have HY := Lib.hid hy
          clear hry hy
          go_wp2_with fail
          go_loop [46] (fun i => ∃ p : Nat, p ≤ y.length ∧ i = .int .i64 p ∧ (y.take p).all (inB d.its.length) = true) (fun i => y.length - (intOf i).toNat)
          case atStart => exact ⟨0, by omega, rfl, rfl⟩
          case round =>
            obtain ⟨p, hpl, rfl, hall⟩ := hrel
            have HALP := Lib.hid hall
            clear hall
            by_cases hlt3 : p < y.length
            · obtain ⟨n, hn⟩ : ∃ n, y[p]? = some n := ⟨_, List.getElem?_eq_getElem hlt3⟩
              obtain ⟨b3, rfl, hc3⟩ := Reads.elem HRY.out hn
              unfold iV at hc3
              have HSN := Lib.hid (all_snoc hn (inB d.its.length))
              have HN := Lib.hid hn
              clear hn
              by_cases hn0 : n < 0
              · have HM := Lib.hid (mayD_all HBIG.out (all_not HX.out (show allWs d.its.length x = false from all_not HY.out (show allW d.its.length y = false from all_not HN.out (inB_low hn0)))))
                go_wp2
                go_ret
                exact ⟨ret_int HM.out.symm, HB0.out⟩
              have hn0' : 0 ≤ n := by omega
              have hdn0 : decide (n < 0) = false := by simpa using hn0'
              by_cases hn1 : (d.its.length : Int) ≤ n
              · have HM := Lib.hid (mayD_all HBIG.out (all_not HX.out (show allWs d.its.length x = false from all_not HY.out (show allW d.its.length y = false from all_not HN.out (inB_high hn1)))))
                clear hn0
                go_wp2
                go_ret
                exact ⟨ret_int HM.out.symm, HB0.out⟩
              have hn1' : n < d.its.length := by omega
              have hdn1 : decide ((d.its.length : Int) ≤ n) = false := by simpa using hn1'
              have HIN := Lib.hid (inB_yes hn0' hn1')
              clear hn0 hn1
              go_wp2
              exact ⟨⟨p + 1, by omega, by go_num, by rw [HSN.out, HALP.out, HIN.out]; rfl⟩, by simp [intOf]; omega⟩
            · have hpe : (y.length : Int) ≤ p := by omega
              have HAY := Lib.hid (show allW d.its.length y = true from by have h := HALP.out; rw [List.take_of_length_le (by omega)] at h; exact h)
              have HSQ := Lib.hid (all_snoc HY.out (allW d.its.length))
              go_wp2
              exact ⟨⟨q + 1, by omega, by go_num, by rw [HSQ.out, HALQ.out, HAY.out]; rfl⟩, by simp [intOf]; omega⟩
        · have hqe : (x.length : Int) ≤ q := by omega
          have HAX := Lib.hid (show allWs d.its.length x = true from by have h := HALQ.out; rw [List.take_of_length_le (by omega)] at h; exact h)
          have HSK := Lib.hid (all_snoc HX.out (allWs d.its.length))
          go_wp2
          exact ⟨⟨k + 1, by omega, by go_num, by rw [HSK.out, HALL.out, HAX.out]; rfl⟩, by simp [intOf]; omega⟩
    · have hke : (d.ws.length : Int) ≤ k := by omega
      have HM := Lib.hid (mayD_ok HBIG.out HROOT.out HLEN.out (by have h := HALL.out; rw [List.take_of_length_le (by omega)] at h; exact h))
      go_wp2
      go_ret
      exact ⟨ret_int HM.out.symm, HB0.out⟩
end Go.Proofs.Ytgfgajekegfdgaa
