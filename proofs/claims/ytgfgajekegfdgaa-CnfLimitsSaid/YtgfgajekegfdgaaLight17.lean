/-
  Layer 17: the contract of light (a deal that is not greater than is looked at). Own work.
-/
import Derived.Test.YtgfgajekegfdgaaCls17
namespace Go.Proofs.Ytgfgajekegfdgaa
set_option linter.unusedVariables false
set_option linter.unusedSimpArgs false
open Go.RowKit

def lightD (d : Dl) : Prop := d.its.length ≤ 40 ∧ d.ws.length ≤ 40 ∧ fewW d.ws
def LightP (d : Dl) (w : World) (e : Ending) (w' : World) : Prop := ∃ b : Bool, e = .returned (.bool b) ∧ (b = true → lightD d) ∧ Below w.heap.size w w'
theorem few_step {W : List (List (List Int))} {k : Nat} {x : List (List Int)} (hx : W[k]? = some x) (h : fewW (W.take k)) (h1 : x.length ≤ 10) (h2 : ∀ w ∈ x, w.length ≤ 40) : fewW (W.take (k + 1)) := by
  intro ws hws
  rw [List.take_add_one, hx, List.mem_append] at hws
  rcases hws with hws | hws
  · exact h ws hws
  · simp at hws; subst hws; exact ⟨h1, h2⟩
theorem short_step {x : List (List Int)} {q : Nat} {y : List Int} (hy : x[q]? = some y) (h : ∀ w ∈ x.take q, w.length ≤ 40) (h1 : y.length ≤ 40) : ∀ w ∈ x.take (q + 1), w.length ≤ 40 := by
  intro w hw
  rw [List.take_add_one, hy, List.mem_append] at hw
  rcases hw with hw | hw
  · exact h w hw
  · simp at hw; subst hw; exact h1
set_option maxRecDepth 100000 in
set_option maxHeartbeats 4000000 in
theorem light_any (d : Dl) (vi vw : Value) (w : World) (hr : RdD w vi vw d) :
    Calls Try.prog 9 #[dealV vi vw d.root] w (LightP d w) := by
  obtain ⟨ai, ci, aw, cw, rfl, rfl⟩ := hr.shape
  have hli := hr.i.len
  have hlw := RdOf.len hr.w
  have hliI : (d.its.length : Int) ≤ 9223372036854775807 := by omega
  have hlwI : (d.ws.length : Int) ≤ 9223372036854775807 := by omega
  have hb0 : Below w.heap.size w (w.alloc (.cells #[.slice ai d.its.length ci, .slice aw d.ws.length cw, .int .i64 d.root] 25)) := (Below.refl w.heap.size w).alloc (Nat.le_refl _) _
  have hk := DlIn.new w (.slice ai d.its.length ci) (.slice aw d.ws.length cw) d.root
  have HW := Lib.hid (hr.w.below hb0 (Nat.le_refl _))
  have HB0 := Lib.hid hb0
  clear hr hb0
  unfold dealV
  go_enter Try.func9, Try.ntmps9
  go_upto_region 1 with fail
  generalize w.alloc (.cells #[.slice ai d.its.length ci, .slice aw d.ws.length cw, .int .i64 d.root] 25) = w1 at hk HW HB0 ⊢
  generalize w.heap.size = D at hk ⊢
  obtain ⟨x0, x1, x2⟩ := hk
  by_cases hbig : 40 < d.its.length
  · have hbigI : (40 : Int) < d.its.length := by omega
    clear hbig
    go_wp2
    go_ret
    exact ⟨false, rfl, by simp, HB0.out⟩
  have hsm : (d.its.length : Int) ≤ 40 := by omega
  have hds : decide ((40 : Int) < d.its.length) = false := by simpa using hsm
  have HI := Lib.hid (show d.its.length ≤ 40 by omega)
  clear hbig
  by_cases hbig : 40 < d.ws.length
  · have hbigI : (40 : Int) < d.ws.length := by omega
    clear hbig
    go_wp2
    go_ret
    exact ⟨false, rfl, by simp, HB0.out⟩
  have hsmw : (d.ws.length : Int) ≤ 40 := by omega
  have hdw : decide ((40 : Int) < d.ws.length) = false := by simpa using hsmw
  have HWL := Lib.hid (show d.ws.length ≤ 40 by omega)
  clear hbig
  go_wp2_with fail
  go_loop [20] (fun i => ∃ k : Nat, k ≤ d.ws.length ∧ i = .int .i64 k ∧ fewW (d.ws.take k)) (fun i => d.ws.length - (intOf i).toNat)
  case atStart => exact ⟨0, by omega, rfl, fun ws h => by simp at h⟩
  case round =>
    obtain ⟨k, hkl, rfl, hall⟩ := hrel
    have HALL := Lib.hid hall
    clear hall
    by_cases hlt : k < d.ws.length
    · obtain ⟨x, hx⟩ : ∃ x, d.ws[k]? = some x := ⟨_, List.getElem?_eq_getElem hlt⟩
      obtain ⟨b, r, rfl, hc, hrx⟩ := RdOf.elem HW.out hx
      obtain ⟨xa, xc, rfl⟩ := RdOf.shape hrx
      have hlx := RdOf.len hrx
      have hlxI : (x.length : Int) ≤ 9223372036854775807 := by omega
      have HRX := Lib.hid hrx
      have HX := Lib.hid hx
      clear hrx hx
      by_cases h10 : 10 < x.length
      · have h10I : (10 : Int) < x.length := by omega
        clear h10
        go_wp2
        go_ret
        exact ⟨false, rfl, by simp, HB0.out⟩
      have h10I : (x.length : Int) ≤ 10 := by omega
      have H10 := Lib.hid (show x.length ≤ 10 by omega)
      clear h10
      go_wp2_with fail
      go_loop [29] (fun i => ∃ q : Nat, q ≤ x.length ∧ i = .int .i64 q ∧ ∀ w ∈ x.take q, w.length ≤ 40) (fun i => x.length - (intOf i).toNat)
      case atStart => exact ⟨0, by omega, rfl, by simp⟩
      case round =>
        obtain ⟨q, hql, rfl, hall⟩ := hrel
        have HALQ := Lib.hid hall
        clear hall
        by_cases hlt2 : q < x.length
        · obtain ⟨y, hy⟩ : ∃ y, x[q]? = some y := ⟨_, List.getElem?_eq_getElem hlt2⟩
          obtain ⟨b2, r2, rfl, hc2, hry⟩ := RdOf.elem HRX.out hy
          obtain ⟨ya, yc, rfl⟩ := Reads.shape hry
          have hly := Reads.len hry
          have hlyI : (y.length : Int) ≤ 9223372036854775807 := by omega
          have HY := Lib.hid hy
          clear hry hy
          by_cases h40 : 40 < y.length
          · have h40I : (40 : Int) < y.length := by omega
            clear h40
            go_wp2
            go_ret
            exact ⟨false, rfl, by simp, HB0.out⟩
          have h40I : (y.length : Int) ≤ 40 := by omega
          have H40 := Lib.hid (show y.length ≤ 40 by omega)
          clear h40
          go_wp2
          exact ⟨⟨q + 1, by omega, by go_num, short_step HY.out HALQ.out H40.out⟩, by simp [intOf]; omega⟩
        · have hqe : (x.length : Int) ≤ q := by omega
          have HAX := Lib.hid (show ∀ w ∈ x, w.length ≤ 40 from by have h := HALQ.out; rw [List.take_of_length_le (by omega)] at h; exact h)
          go_wp2
          exact ⟨⟨k + 1, by omega, by go_num, few_step HX.out HALL.out H10.out HAX.out⟩, by simp [intOf]; omega⟩
    · have hke : (d.ws.length : Int) ≤ k := by omega
      have HFW := Lib.hid (show fewW d.ws from by have h := HALL.out; rw [List.take_of_length_le (by omega)] at h; exact h)
      go_wp2
      go_ret
      exact ⟨true, rfl, fun _ => ⟨HI.out, HWL.out, HFW.out⟩, HB0.out⟩
end Go.Proofs.Ytgfgajekegfdgaa
