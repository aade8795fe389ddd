/-
  Layer 29: the statement TrimEnds: of what is left nothing more is left out; it has no clause of one literal, none twice, and no more clauses than there were. For every input. Own work.
-/
import Derived.Test.YtlcbfahaapodmaaSa29
import Derived.Test.YtlcbfahaapodmaaEn29
namespace Go.Proofs.Ytlcbfahaapodmaa
set_option linter.unusedVariables false
set_option linter.unusedSimpArgs false
open Go.ChangeShapes Go.WideShapes Go.ChangeAt Go.RowKit

theorem may_trim {vars : Int} {cs : List (List Int)} (h : mayQ vars cs = 0) : mayQ vars (trimM vars.toNat cs).C = 0 := by
  obtain ⟨h1, h2, h3, h4, h5⟩ := mayQ_zero h
  have hi := trimM_inv vars.toNat cs
  have hl := hi.len
  refine mayQ_ok (by omega) (fun c hc => ?_) (by omega) (fun c hc n hn => ?_)
  · obtain ⟨c0, k1, k2⟩ := hi.lens c hc
    exact Nat.le_trans k2 (h4 c0 k1)
  · obtain ⟨c0, k1, k2⟩ := hi.lits c hc n hn
    have := h5 c0 k1 n k2
    unfold okL
    simp
    omega
theorem light_trim {vars : Nat} {cs : List (List Int)} (h1 : cs.length ≤ 60) (h2 : ∀ c ∈ cs, c.length ≤ 20) : (trimM vars cs).C.length ≤ 60 ∧ (∀ c ∈ (trimM vars cs).C, c.length ≤ 20) ∧ sizeC (trimM vars cs).C ≤ 1260 := by
  have hi := trimM_inv vars cs
  have hl := hi.len
  have k2 : ∀ c ∈ (trimM vars cs).C, c.length ≤ 20 := fun c hc => by
    obtain ⟨c0, k1, k2⟩ := hi.lens c hc
    exact Nat.le_trans k2 (h2 c0 k1)
  exact ⟨by omega, k2, light_size (by omega) k2⟩
/-- a row of one row -/
theorem one_row29 {w : World} {r : Value} {c : List Int} {B : Nat} (hb : w.heap[B]? = some (.cells #[r] 27 (0, 0))) (h : Reads w iV r c) : Reads2 w (.slice (some ⟨B, 0, none⟩) 1 1) [c] := by
  refine ⟨_, 1, rfl, by simp, fun j d hj => ?_⟩
  match j, hj with
  | 0, hj =>
    cases hj
    exact ⟨_, r, rfl, by
      have e : (⟨B, 0, none⟩ : Addr).add 0 = ⟨B, 0, none⟩ := by unfold Addr.add; rfl
      rw [e, cell_of_row w B 0 _ _ (0, 0) hb]; rfl, h⟩
  | j + 1, hj => simp at hj
theorem Reads2.grown29 {w w' : World} {v : Value} {cs : List (List Int)} (h : Reads2 w v cs) (hb : Below w.heap.size w w') : Reads2 w' v cs := h.below29 hb (Nat.le_refl _)
theorem below_of {w w' : World} (h : w.grownBy w' none) : Below w.heap.size w w' := (Below.refl _ _).grown h (Nat.le_refl _) (fun k h => by cases h)
set_option maxRecDepth 100000 in
set_option maxHeartbeats 4000000 in
theorem walk_TrimEnds (vars : Int) (hv : -9223372036854775808 ≤ vars ∧ vars ≤ 9223372036854775807) (cv : Value) (cs : List (List Int)) (hf : Fit64 cs) (W : World) (g0 : Reads2 W cv cs) :
    Calls Try.prog 6 #[.agg #[.int .i64 vars, cv]] W fun e W' => e = .returned (.bool true) ∧ Below W.heap.size W W' := by
  obtain ⟨ca, cp, rfl, hlen, hrow⟩ := g0
  have hb : Below W.heap.size W (W.alloc (.cells #[.int .i64 vars, .slice ca cs.length cp] 24)) := (Below.refl _ _).alloc (Nat.le_refl _) _
  have HC := Lib.hid ((show Reads2 W (.slice ca cs.length cp) cs from ⟨ca, cp, rfl, hlen, hrow⟩).below29 hb (Nat.le_refl _))
  have HB := Lib.hid hb
  have hR := heap_alloc_new W (.cells #[.int .i64 vars, .slice ca cs.length cp] 24)
  have hz : W.heap.size < (W.alloc (.cells #[.int .i64 vars, .slice ca cs.length cp] 24)).heap.size := by simp
  clear hlen hrow hb hf
  go_enter Try.func6, Try.ntmps6
  go_upto_region 1 with fail
  generalize W.alloc (.cells #[.int .i64 vars, .slice ca cs.length cp] 24) = W1 at HC HB hR hz ⊢
  have hc0 : W1.cell? ⟨W.heap.size, 0, none⟩ = some (.int .i64 vars) := cell_of_row _ _ 0 _ _ (0, 0) hR
  have hc1 : W1.cell? ⟨W.heap.size, 1, none⟩ = some (.slice ca cs.length cp) := cell_of_row _ _ 1 _ _ (0, 0) hR
  have HR := Lib.hid hR
  have HLT := Lib.hid (light29_any (vars := vars) (.slice ca cs.length cp) W1 HC.out)
  clear hR
  go_wp2_with fail
  refine HLT.out.mono ?_
  rintro e w2 ⟨rfl, hb2⟩
  clear HLT
  have HB2 := Lib.hid (then29 HB.out hb2)
  have HC2 := Lib.hid (HC.out.grown29 hb2)
  have HR2 := Lib.hid ((hb2.block _ hz).trans HR.out)
  have hz2 : W.heap.size < w2.heap.size := Nat.lt_of_lt_of_le hz hb2.size
  clear hb2 hc0 hc1 HB HC HR hz
  have hc0 : w2.cell? ⟨W.heap.size, 0, none⟩ = some (.int .i64 vars) := cell_of_row _ _ 0 _ _ (0, 0) HR2.out
  have hc1 : w2.cell? ⟨W.heap.size, 1, none⟩ = some (.slice ca cs.length cp) := cell_of_row _ _ 1 _ _ (0, 0) HR2.out
  cases hL : lightQ vars cs with
  | false =>
    go_wp2_with fail
    refine (lives29_any _).mono ?_
    rintro e wE ⟨rfl, hbE⟩
    go_wp2
    go_ret
    exact ⟨rfl, then29 (HB2.out) hbE⟩
  | true =>
    obtain ⟨hv30, hl60, hl20⟩ := lightQ_of hL
    have HL20 := Lib.hid hl20
    have HMY := Lib.hid (RMay29_any (vars := vars) (.slice ca cs.length cp) w2 hv HC2.out)
    clear hL hl20
    go_wp2_with fail
    refine HMY.out.mono ?_
    rintro e w3 ⟨rfl, hb3⟩
    clear HMY
    have HB3 := Lib.hid (then29 HB2.out hb3)
    have HC3 := Lib.hid (HC2.out.grown29 hb3)
    have HR3 := Lib.hid ((hb3.block _ hz2).trans HR2.out)
    have hz3 : W.heap.size < w3.heap.size := Nat.lt_of_lt_of_le hz2 hb3.size
    clear hb3 hc0 hc1 HB2 HC2 HR2 hz2
    have hc0 : w3.cell? ⟨W.heap.size, 0, none⟩ = some (.int .i64 vars) := cell_of_row _ _ 0 _ _ (0, 0) HR3.out
    have hc1 : w3.cell? ⟨W.heap.size, 1, none⟩ = some (.slice ca cs.length cp) := cell_of_row _ _ 1 _ _ (0, 0) HR3.out
    by_cases hm : mayQ vars cs = 0
    · have hmb : (mayQ vars cs == 0) = true := by rw [hm]; rfl
      have HM := Lib.hid hm
      have HT := Lib.hid (Trim29_any (vars := vars) (.slice ca cs.length cp) w3 hv HC3.out (Nat.le_trans (light_size hl60 HL20.out) (by omega)))
      clear hm
      go_wp2_with fail
      refine HT.out.mono ?_
      rintro e w4 ⟨hb4, hr⟩
      clear HT
      obtain ⟨_, dv, fv, rfl, hcapd, hu⟩ := hr.resolve_right (fun h => h.1 HM.out)
      have HL4 := Lib.hid (light_trim (vars := vars.toNat) hl60 HL20.out)
      have HMT := Lib.hid (may_trim HM.out)
      have HEN := Lib.hid (trim_trim vars.toNat cs)
      have HUN := Lib.hid (trim_no_unit vars.toNat cs)
      have HEM := Lib.hid (trim_empty vars.toNat cs)
      have HTW := Lib.hid (fun (i k : Nat) (c d : List Int) (hi : (trimM vars.toNat cs).C[i]? = some c) (hk : (trimM vars.toNat cs).C[k]? = some d) (hlt : k < i) => trim_two vars.toNat cs hi hk hlt)
      have hle : (trimM vars.toNat cs).C.length ≤ cs.length := (trimM_inv vars.toNat cs).len
      generalize (trimM vars.toNat cs).C = ds at hu HL4 HMT HEN HUN HEM HTW hle
      generalize (trimM vars.toNat cs).fx = fx at hu
      obtain ⟨⟨da, dc, hdd, _⟩, hff⟩ := hu w4 (UpW.refl _ _)
      obtain ⟨fa, fc, hff, _⟩ := reads_shape hff
      subst hdd hff
      have HCAP := Lib.hid (show ds.length ≤ dc ∧ dc ≤ 9223372036854775807 from by
        obtain ⟨_, _, _, e, h1, h2⟩ := hcapd
        cases e
        exact ⟨h1, h2⟩)
      clear hcapd
      have HU := Lib.hid hu
      have HB4 := Lib.hid (then29 HB3.out hb4)
      have HR4 := Lib.hid ((hb4.block _ hz3).trans HR3.out)
      have hz4 : W.heap.size < w4.heap.size := Nat.lt_of_lt_of_le hz3 hb4.size
      clear hb4 hc0 hc1 HB3 HC3 HR3 hz3 hu
      go_upto_region 4 with fail
      have h5 := upw_alloc w3.heap.size w4 (.cells #[.int .i64 vars, .slice da ds.length dc, .slice fa fx.length fc] 29)
      have HD5 := Lib.hid (HU.out _ h5).1
      have HB5 := Lib.hid (HB4.out.alloc (Nat.le_of_lt hz4) (.cells #[.int .i64 vars, .slice da ds.length dc, .slice fa fx.length fc] 29))
      have HT5 := Lib.hid (heap_alloc_new w4 (.cells #[.int .i64 vars, .slice da ds.length dc, .slice fa fx.length fc] 29))
      have HR5 := Lib.hid ((Below.heap_alloc w4 (.cells #[.int .i64 vars, .slice da ds.length dc, .slice fa fx.length fc] 29) _ hz4).trans HR4.out)
      have hx5 : w4.heap.size < (w4.alloc (.cells #[.int .i64 vars, .slice da ds.length dc, .slice fa fx.length fc] 29)).heap.size := by simp
      generalize w4.alloc (.cells #[.int .i64 vars, .slice da ds.length dc, .slice fa fx.length fc] 29) = w5 at HD5 HB5 HT5 HR5 hx5 ⊢
      generalize w4.heap.size = X at HT5 hx5 hz4 ⊢
      have hz5 : W.heap.size < w5.heap.size := Nat.lt_trans hz4 hx5
      clear HU HB4 HR4 hz4 h5
      have t0 : w5.cell? ⟨X, 0, none⟩ = some (.int .i64 vars) := cell_of_row _ _ 0 _ _ (0, 0) HT5.out
      have t1 : w5.cell? ⟨X, 1, none⟩ = some (.slice da ds.length dc) := cell_of_row _ _ 1 _ _ (0, 0) HT5.out
      have hdl : ds.length ≤ 60 := HL4.out.1
      have HT := Lib.hid (Trim29_any (vars := vars) (.slice da ds.length dc) w5 hv HD5.out (Nat.le_trans HL4.out.2.2 (by omega)))
      go_wp2_with fail
      refine HT.out.mono ?_
      rintro e w6 ⟨hb6, hr⟩
      clear HT
      obtain ⟨_, ev, gv, rfl, _, hu⟩ := hr.resolve_right (fun h => h.1 HMT.out)
      have hu2 : ∀ wx, UpW w5.heap.size w6 wx → Reads2 wx ev ds ∧ Reads wx iV gv [] := fun wx h => by
        have h2 := hu wx h
        rw [HEN.out.1, HEN.out.2] at h2
        exact h2
      obtain ⟨⟨ea, ec, hdd, _⟩, hff⟩ := hu2 w6 (UpW.refl _ _)
      obtain ⟨ga, gc, hff, _⟩ := reads_shape hff
      have hff : gv = .slice ga 0 gc := hff
      subst hdd hff
      have HU := Lib.hid hu2
      have HB6 := Lib.hid (then29 HB5.out hb6)
      have HD6 := Lib.hid (HD5.out.grown29 hb6)
      have HR6 := Lib.hid ((hb6.block _ hz5).trans HR5.out)
      have HT6 := Lib.hid ((hb6.block _ hx5).trans HT5.out)
      have hz6 : W.heap.size < w6.heap.size := Nat.lt_of_lt_of_le hz5 hb6.size
      have hx6 : X < w6.heap.size := Nat.lt_of_lt_of_le hx5 hb6.size
      clear hb6 t0 t1 HB5 HD5 HR5 HT5 hz5 hx5 hu hu2
      go_upto_region 5 with fail
      have h7 := upw_alloc w5.heap.size w6 (.cells #[.int .i64 vars, .slice ea ds.length ec, .slice ga 0 gc] 29)
      have hg7 := World.grownBy_alloc w6 (.cells #[.int .i64 vars, .slice ea ds.length ec, .slice ga 0 gc] 29) none
      have HE7 := Lib.hid (HU.out _ h7).1
      have HD7 := Lib.hid (HD6.out.grown29 (below_of hg7))
      have HB7 := Lib.hid (HB6.out.alloc (Nat.le_of_lt hz6) (.cells #[.int .i64 vars, .slice ea ds.length ec, .slice ga 0 gc] 29))
      have HU7 := Lib.hid (heap_alloc_new w6 (.cells #[.int .i64 vars, .slice ea ds.length ec, .slice ga 0 gc] 29))
      have HT7 := Lib.hid ((Below.heap_alloc w6 (.cells #[.int .i64 vars, .slice ea ds.length ec, .slice ga 0 gc] 29) _ hx6).trans HT6.out)
      have HR7 := Lib.hid ((Below.heap_alloc w6 (.cells #[.int .i64 vars, .slice ea ds.length ec, .slice ga 0 gc] 29) _ hz6).trans HR6.out)
      have hy7 : w6.heap.size < (w6.alloc (.cells #[.int .i64 vars, .slice ea ds.length ec, .slice ga 0 gc] 29)).heap.size := by simp
      generalize w6.alloc (.cells #[.int .i64 vars, .slice ea ds.length ec, .slice ga 0 gc] 29) = w7 at HD7 HE7 HB7 HT7 HU7 HR7 hy7 ⊢
      generalize w6.heap.size = Y at HU7 hy7 hz6 hx6 ⊢
      clear HU HB6 HD6 HR6 HT6 h7 hg7
      have t1 : w7.cell? ⟨X, 1, none⟩ = some (.slice da ds.length dc) := cell_of_row _ _ 1 _ _ (0, 0) HT7.out
      have u1 : w7.cell? ⟨Y, 1, none⟩ = some (.slice ea ds.length ec) := cell_of_row _ _ 1 _ _ (0, 0) HU7.out
      have u2 : w7.cell? ⟨Y, 2, none⟩ = some (.slice ga 0 gc) := cell_of_row _ _ 2 _ _ (0, 0) HU7.out
      have HSM := Lib.hid (Same29_any _ _ w7 HD7.out HE7.out)
      have hdd : decide (ds = ds) = true := by simp
      rw [hdd] at HSM
      clear hdd
      go_wp2_with fail
      refine HSM.out.mono ?_
      rintro e w8 ⟨rfl, hg8⟩
      have HB8 := Lib.hid (then29 HB7.out (below_of hg8))
      have HT8 := Lib.hid ((hg8.block X (by omega) (by simp)).trans HT7.out)
      have HR8 := Lib.hid ((hg8.block _ (by omega) (by simp)).trans HR7.out)
      have HD8 := Lib.hid (HD7.out.kept hg8)
      have hx8 : X < w8.heap.size := by have := hg8.size; omega
      clear HSM t1 u1 u2 HB7 HT7 HR7 HD7 HE7 HU7 hg8 hy7
      have t1 : w8.cell? ⟨X, 1, none⟩ = some (.slice da ds.length dc) := cell_of_row _ _ 1 _ _ (0, 0) HT8.out
      have hc1 : w8.cell? ⟨W.heap.size, 1, none⟩ = some (.slice ca cs.length cp) := cell_of_row _ _ 1 _ _ (0, 0) HR8.out
      have hleI : ¬ (cs.length : Int) < (ds.length : Int) := by omega
      have hleN : ¬ cs.length < ds.length := by omega
      have hdlI : (ds.length : Int) ≤ 60 := by omega
      have hclI : (cs.length : Int) ≤ 60 := by omega
      have hcap := HCAP.out
      go_wp2_with fail
      go_loopw [67] (fun q wr => ∃ i : Nat, i ≤ ds.length ∧ q = .int .i64 i ∧ w8.grownBy wr none) (fun q _ => ds.length - (intOf q).toNat)
      case atStart => exact ⟨0, by omega, rfl, World.grownBy.refl _ _⟩
      case round =>
        obtain ⟨i, hi, rfl, hg⟩ := hrel
        have HG := Lib.hid hg
        have k1 := hg.cell t1 (by simp)
        by_cases hlt : i < ds.length
        · obtain ⟨c, hci⟩ : ∃ c, ds[i]? = some c := ⟨_, List.getElem?_eq_getElem hlt⟩
          obtain ⟨_, _, e0, _, hrw⟩ := HD8.out
          cases e0
          obtain ⟨b1, r1, rfl, hrc8, hrd1⟩ := hrw i c hci
          obtain ⟨xa, xc, rfl, hxl, _⟩ := reads_shape hrd1
          have hrc1 := hg.cell hrc8 (by simp)
          have hiI : (i : Int) < (ds.length : Int) := by omega
          have hc20 := HL4.out.2.1 c (List.mem_of_getElem? hci)
          have hcI : (c.length : Int) ≤ 20 := by omega
          have hn1 := HUN.out c (List.mem_of_getElem? hci)
          have he0 := HEM.out c (List.mem_of_getElem? hci)
          have hb1 : ((c.length : Int) == 1) = false := by simp; omega
          have HCI := Lib.hid hci
          have HXC := Lib.hid hrc8
          have HXD := Lib.hid hrd1
          have hcapI : (i : Int) ≤ (dc : Int) := by omega
          have hcapJ : (dc : Int) ≤ 9223372036854775807 := by omega
          clear hrw hrd1 hci hn1 hg hrc8
          go_upto_region 10 with fail
          go_cut [86] from 72 to 87 (fun p wx => p = .bool false ∧ wx = wr)
          case first =>
            by_cases h0 : c.length = 0
            · have h0b : ((c.length : Int) == 0) = true := by rw [h0]; rfl
              have hd1 : ((ds.length : Int) == 1) = true := by rw [he0 h0]; rfl
              clear h0 he0
              go_wp2_with fail
              go_meet
              exact ⟨by simp [bne, hd1], rfl⟩
            · have h0b : ((c.length : Int) == 0) = false := beq_eq_false_iff_ne.2 (fun e => h0 (by omega))
              clear h0 he0
              go_wp2_with fail
              go_meet
              exact ⟨rfl, rfl⟩
          case rest =>
            obtain ⟨rfl, hx⟩ := hcut
            obtain rfl : wr = _ := hx.symm
            clear he0 hb1
            go_wp2_with fail
            go_loopw [93] (fun q wx => ∃ k : Nat, k ≤ i ∧ q = .int .i64 k ∧ w8.grownBy wx none) (fun q _ => i - (intOf q).toNat)
            case atStart => exact ⟨0, by omega, rfl, HG.out⟩
            case round =>
              obtain ⟨k, hk, rfl, hg⟩ := hrel
              have HG2 := Lib.hid hg
              by_cases hlt2 : k < i
              · obtain ⟨d, hdk⟩ : ∃ d, ds[k]? = some d := ⟨_, List.getElem?_eq_getElem (by omega)⟩
                obtain ⟨_, _, e0, _, hrw⟩ := HD8.out
                cases e0
                obtain ⟨_, r2, e0, hrc8, hrd2⟩ := hrw k d hdk
                cases e0
                obtain ⟨ya, yc, rfl, _, _⟩ := reads_shape hrd2
                have hrc2 := hg.cell hrc8 (by simp)
                have hkI : (k : Int) < (i : Int) := by omega
                have hne : decide ([c] = [d]) = false := decide_eq_false (fun e => HTW.out i k c d HCI.out hdk hlt2 (by cases e; rfl))
                have hga := hg.trans (World.grownBy_alloc wr (.cells #[.slice xa c.length xc] 27) none)
                have hgb := hga.trans (World.grownBy_alloc (wr.alloc (.cells #[.slice xa c.length xc] 27)) (.cells #[.slice ya d.length yc] 27) none)
                have HGB := Lib.hid hgb
                have hra := heap_alloc_new wr (.cells #[.slice xa c.length xc] 27)
                have hrb := heap_alloc2_new wr (.cells #[.slice xa c.length xc] 27) (.cells #[.slice ya d.length yc] 27)
                have hra2 := (Below.heap_alloc (wr.alloc (.cells #[.slice xa c.length xc] 27)) (.cells #[.slice ya d.length yc] 27) _ (by simp)).trans hra
                have HSM := Lib.hid (Same29_any _ _ _ (one_row29 hra2 (HXD.out.below (below_of hgb) (Nat.le_refl _))) (one_row29 hrb (hrd2.below (below_of hgb) (Nat.le_refl _))))
                rw [hne] at HSM
                clear hra hrb hra2 hga hgb hg hrd2 hrw hne hdk hrc8
                go_wp2_with fail
                refine HSM.out.mono ?_
                rintro e w9 ⟨rfl, hg9⟩
                have HG9 := Lib.hid (HGB.out.trans hg9)
                clear hg9 HSM
                go_wp2_with fail
                go_round
                case rel => exact ⟨k + 1, by omega, by go_num, HG9.out⟩
                case measure => simp [intOf]; omega
              · have hkI : (i : Int) ≤ (k : Int) := by omega
                clear hg
                go_wp2_with fail
                go_round
                case rel => exact ⟨i + 1, by omega, by go_num, HG2.out⟩
                case measure => simp [intOf]; omega
        · have hiI : (ds.length : Int) ≤ (i : Int) := by omega
          go_wp2_with fail
          refine (lives29_any _).mono ?_
          rintro e wE ⟨rfl, hbE⟩
          go_wp2
          go_ret
          exact ⟨rfl, then29 (then29 HB8.out (below_of HG.out)) hbE⟩
    · have hmb : (mayQ vars cs == 0) = false := by simpa using hm
      clear hm
      go_wp2_with fail
      refine (lives29_any _).mono ?_
      rintro e wE ⟨rfl, hbE⟩
      go_wp2
      go_ret
      exact ⟨rfl, then29 (HB3.out) hbE⟩

set_option maxRecDepth 100000 in
theorem lifted_TrimEnds (os : Os) (started : os.Started) (H : Type) (enc : TypeId × Value → H) :
    ReturnsInHanded {} Try.checked os 6 .any (Rows.trimEndsSpec.pre6 enc Try.prog Try.f6 Rows.trimEndsRow.domain false) (Rows.trimEndsSpec.post enc Try.prog Try.f6 false true false false) := by
  refine returnsInHanded_of_change (C := Try.checked) own_knob started (by kernel_rfl) Try.func6
    (ChangeSpec.witness6 (enc := enc) (C := Try.checked) false ⟨#[], #[.agg #[.int .i64 0, .slice none 0 0]], []⟩ 8 (by kernel_rfl) (by kernel_rfl) (by kernel_rfl) (by kernel_rfl)) ?_
  intro W base args ds gs before hval0 hW _ _
  have hval : ∀ (j : Nat) t v, Try.f6.params[j]? = some t → args[j]? = some v → Value.okWide Try.prog W .any base t v := hval0
  have hW' := hW
  obtain ⟨p, q, hA0, hV, rfl, _, _⟩ := hW
  have hA : DataW.TrodAll enc Try.prog W 0 (fun _ => true) true Try.f6.params.toList args.toList ds p := hA0
  rw [Try.params6] at hA hval
  obtain ⟨v0, vs0, d0, ds0, p0, q0, hargs, rfl, rfl, h0, r0⟩ := trodAll_cons hA
  obtain ⟨rfl, rfl, rfl⟩ := trodAll_nil r0
  obtain rfl : args = #[v0] := by cases args; simp_all
  obtain ⟨rfl, rfl⟩ := trodVars_none hV
  obtain ⟨n0, cv0, l0, rfl, b0, g0, f0⟩ := open_question (hval 0 24 v0 rfl rfl) h0
  clear hA0 hval0
  refine (walk_TrimEnds n0 b0 cv0 l0 f0 W g0).mono fun e W' ⟨he, hb⟩ => ?_
  subst he
  exact ⟨_, rfl, law_post (by kernel_rfl) rfl rfl rfl hW' hb⟩

/-- the statement of TrimEnds -/
theorem proved_TrimEnds : Rows.TrimEndsSaid :=
  OpenClaim.holds_of_wide 6 Try.f6 rfl rfl rfl rfl rfl rfl rfl ⟨rfl, rfl, rfl, rfl, rfl⟩ rfl rfl rfl rfl rfl (by kernel_rfl) Try.func6 (by kernel_rfl)
    (of_decide_eq_true (by kernel_rfl)) (by unfold Func.isWrapper; first | (rw [if_pos (by decide +kernel)]; kernel_rfl) | (rw [if_neg (by decide +kernel)]; exact ⟨rfl, rfl⟩))
    (fun os started H enc _ => lifted_TrimEnds os started H enc)

end Go.Proofs.Ytlcbfahaapodmaa
