/-
  Layer 17: the contract of the answer's Right. Own work.
-/
import Derived.Test.YtgfgajekegfdgaaMeans17
namespace Go.Proofs.Ytgfgajekegfdgaa
set_option linter.unusedVariables false
set_option linter.unusedSimpArgs false
open Go.RowKit

theorem below_drewN {B : Nat} {a w : World} (h : Below B a w) (n : Nat) : Below B a (w.drewN n) := ⟨h.os, h.tape, h.output, h.size, h.block⟩
theorem hasB_take {l : List Int} {k : Nat} {x : Int} (h : l[k]? = some x) (n : Int) : hasB (l.take (k + 1)) n = (hasB (l.take k) n || x == n) := by
  rw [take_snoc _ k x h, hasB_snoc]
theorem has_any (vl : Value) (l : List Int) (n : Int) (w : World) (hl : Reads w iV vl l) :
    Calls Try.prog 27 #[vl, .int .i64 n] w fun e w' => e = .returned (.bool (hasB l n)) ∧ w = w' := by
  obtain ⟨la, lc, rfl⟩ := hl.shape
  have hll := hl.len
  have hlI : (l.length : Int) ≤ 9223372036854775807 := by omega
  have HL := Lib.hid hl
  clear hl
  go_enter Try.func27, Try.ntmps27
  go_wp2_with fail
  go_loop [9] (fun i => ∃ k : Nat, k ≤ l.length ∧ i = .int .i64 k ∧ hasB (l.take k) n = false) (fun i => l.length - (intOf i).toNat)
  case atStart => exact ⟨0, by omega, rfl, rfl⟩
  case round =>
    obtain ⟨k, hk, rfl, hno⟩ := hrel
    have HNO := Lib.hid hno
    clear hno
    by_cases hlt : k < l.length
    · obtain ⟨x, hx⟩ : ∃ x, l[k]? = some x := ⟨_, List.getElem?_eq_getElem hlt⟩
      obtain ⟨b, rfl, hc⟩ := HL.out.elem hx
      have HX := Lib.hid hx
      unfold iV at hc
      by_cases he : x = n
      · have HE := Lib.hid he
        have heq : (x == n) = true := by simpa using he
        clear he hx
        go_wp2
        go_ret
        exact ⟨ret_bool (hasB_iff.2 (by rw [← HE.out]; exact List.mem_of_getElem? HX.out)).symm, rfl⟩
      · have hne : (x == n) = false := by simpa using he
        have HNE := Lib.hid hne
        clear hx he
        go_wp2
        exact ⟨⟨k + 1, by omega, by go_num, by rw [hasB_take HX.out, HNO.out, HNE.out]; rfl⟩, by simp [intOf]; omega⟩
    · have hke : l.length ≤ k := by omega
      have hle : (l.length : Int) ≤ k := by omega
      have HKE := Lib.hid hke
      clear hke
      go_wp2
      go_ret
      exact ⟨ret_bool (by rw [← HNO.out, List.take_of_length_le HKE.out]), rfl⟩
/-- another number of the same key -/
def clash (d : Dl) (n : Int) (l : List Int) : Bool := l.any fun k => inB d.its.length k && (!(k == n) && sameN d k n)
def wantOk (tk : List Int) (x : List Int) : Bool := x.any fun k => hasB tk k
def wantsOk (tk : List Int) (ws : List (List Int)) : Bool := ws.all (wantOk tk)
def goodN (d : Dl) (tk : List Int) (n : Int) : Bool := inB d.its.length n && (!(clash d n tk) && wantsOk tk (d.ws.getD n.toNat []))
theorem right_no {d : Dl} {tk : List Int} (h : mayD d ≠ 0) : rightB d tk = false := by unfold rightB; simp [h]
theorem right_good {d : Dl} {tk : List Int} (hm : mayD d = 0) : rightB d tk = (hasB tk d.root && tk.all (goodN d tk)) := by
  rw [Bool.eq_iff_iff, right_iff hm, Bool.and_eq_true, hasB_iff, List.all_eq_true]
  constructor
  · rintro ⟨h1, h2, h3, h4⟩
    refine ⟨h1, fun n hn => ?_⟩
    unfold goodN
    rw [Bool.and_eq_true, Bool.and_eq_true]
    refine ⟨inB_iff.2 (h2 n hn), ?_, ?_⟩
    · rw [Bool.not_eq_true', clash, List.any_eq_false]
      intro k hk hc
      rw [Bool.and_eq_true, Bool.and_eq_true] at hc
      have := h3 k hk n hn hc.2.2
      rw [this] at hc
      simp at hc
    · exact List.all_eq_true.2 fun x hx => by
        obtain ⟨y, hy, h5⟩ := h4 n hn x hx
        exact List.any_eq_true.2 ⟨y, hy, hasB_iff.2 h5⟩
  · rintro ⟨h1, h2⟩
    have hg : ∀ n ∈ tk, inB d.its.length n = true ∧ clash d n tk = false ∧ wantsOk tk (d.ws.getD n.toNat []) = true := fun n hn => by
      have := h2 n hn
      unfold goodN at this
      rw [Bool.and_eq_true, Bool.and_eq_true, Bool.not_eq_true'] at this
      exact this
    refine ⟨h1, fun n hn => inB_iff.1 (hg n hn).1, fun a ha b hb hs => ?_, fun n hn x hx => ?_⟩
    · by_cases hab : a = b
      · exact hab
      · have hc := List.any_eq_false.1 (hg b hb).2.1 a ha
        exact absurd (by rw [(hg a ha).1, hs]; simpa using hab) hc
    · obtain ⟨y, hy, h5⟩ := List.any_eq_true.1 (List.all_eq_true.1 (hg n hn).2.2 x hx)
      exact ⟨y, hy, hasB_iff.1 h5⟩
theorem right_bad {d : Dl} {tk : List Int} (hm : mayD d = 0) {m : Nat} {n : Int} (hn : tk[m]? = some n) (hg : goodN d tk n = false) : rightB d tk = false := by
  rw [right_good hm, all_not hn hg, Bool.and_false]
theorem clash_snoc {d : Dl} {n k : Int} {l : List Int} {q : Nat} (h : l[q]? = some k) : clash d n (l.take (q + 1)) = (clash d n (l.take q) || (inB d.its.length k && (!(k == n) && sameN d k n))) := by
  unfold clash
  rw [take_snoc _ q k h, List.any_append]; simp
theorem clash_yes {d : Dl} {n k : Int} {tk : List Int} {q : Nat} (h : tk[q]? = some k) (h1 : inB d.its.length k = true) (h2 : (k == n) = false) (h3 : sameN d k n = true) : goodN d tk n = false := by
  have : clash d n tk = true := List.any_eq_true.2 ⟨k, List.mem_of_getElem? h, by rw [h1, h2, h3]; rfl⟩
  unfold goodN
  rw [this]; simp
theorem good_is {d : Dl} {n : Int} {tk : List Int} {ws : List (List Int)} (h1 : inB d.its.length n = true) (h2 : clash d n tk = false) (hw : d.ws[n.toNat]? = some ws) : goodN d tk n = wantsOk tk ws := by
  unfold goodN
  rw [h1, h2, List.getD_eq_getElem?_getD, hw]; rfl
theorem wantOk_snoc {tk x : List Int} {p : Nat} {k : Int} (h : x[p]? = some k) : wantOk tk (x.take (p + 1)) = (wantOk tk (x.take p) || hasB tk k) := by
  unfold wantOk
  rw [take_snoc _ p k h, List.any_append]; simp
theorem same_at {d : Dl} {k n : Int} {x y : It} (hx : d.its[k.toNat]? = some x) (hy : d.its[n.toNat]? = some y) : sameN d k n = sameK x.k y.k := by
  unfold sameN
  rw [sameAt_is hx hy, sameK_comm]
set_option maxRecDepth 100000 in
set_option maxHeartbeats 8000000 in
theorem refRight_any (d : Dl) (tk : List Int) (vi vw vt : Value) (w : World) (hr : RdD w vi vw d) (ht : Reads w iV vt tk) :
    Calls Try.prog 18 #[dealV vi vw d.root, vt] w (BoolP (rightB d tk) w) := by
  obtain ⟨ai, ci, aw, cw, rfl, rfl⟩ := hr.shape
  obtain ⟨ta, tc, rfl⟩ := ht.shape
  have htl := ht.len
  have htlI : (tk.length : Int) ≤ 9223372036854775807 := by omega
  have hli := hr.i.len
  have hliI : (d.its.length : Int) ≤ 9223372036854775807 := by omega
  have hb0 : Below w.heap.size w (w.alloc (.cells #[.slice ai d.its.length ci, .slice aw d.ws.length cw, .int .i64 d.root] 25)) := (Below.refl w.heap.size w).alloc (Nat.le_refl _) _
  have hk := DlIn.new w (.slice ai d.its.length ci) (.slice aw d.ws.length cw) d.root
  have HR := Lib.hid (hr.below hb0 (Nat.le_refl _))
  have HT := Lib.hid (ht.below hb0 (Nat.le_refl _))
  have HB0 := Lib.hid hb0
  have hm2 := fun w' hr => refMay_any d (.slice ai d.its.length ci) (.slice aw d.ws.length cw) w' hr
  have hhas := fun n wz hz => has_any (.slice ta tk.length tc) tk n wz hz
  unfold dealV at hm2 ⊢
  have HM2 := Lib.hid hm2
  have HHAS := Lib.hid hhas
  clear hr ht hb0 hm2 hhas
  go_enter Try.func18, Try.ntmps18
  go_upto_region 1 with fail
  generalize w.alloc (.cells #[.slice ai d.its.length ci, .slice aw d.ws.length cw, .int .i64 d.root] 25) = w1 at hk HR HT HB0 ⊢
  generalize w.heap.size = D at hk ⊢
  have HK := Lib.hid hk
  obtain ⟨x0, x1, x2⟩ := hk
  go_wp2_with fail
  refine (HM2.out _ HR.out).mono ?_
  rintro e w2 ⟨rfl, hb2⟩
  have HB2 := Lib.hid hb2
  clear x0 x1 x2 hb2
  by_cases hm : mayD d = 0
  case neg =>
    have HM := Lib.hid hm
    have hne : (mayD d != 0) = true := by simpa using hm
    clear hm
    go_wp2
    go_ret
    exact ⟨ret_bool (right_no HM.out).symm, HB0.out.trans (HB2.out.mono HB0.out.size)⟩
  have HM := Lib.hid hm
  have hwl := (mayD_zero hm).2.2.1
  have HWL := Lib.hid hwl
  rw [hm]
  clear hm hwl
  obtain ⟨x0, x1, x2⟩ := HK.out.below HB2.out (Nat.le_refl _)
  go_wp2_with fail
  refine (HHAS.out d.root _ (HT.out.below HB2.out (Nat.le_refl _))).mono ?_
  rintro e w3 ⟨rfl, rfl⟩
  have HRG := Lib.hid (right_good (tk := tk) HM.out)
  have HBAD := Lib.hid (fun (m : Nat) (n : Int) (hn : tk[m]? = some n) (hg : goodN d tk n = false) => right_bad HM.out hn hg)
  generalize hasB tk d.root = hb at HRG ⊢
  cases hb
  · go_wp2
    go_ret
    exact ⟨ret_bool (by rw [HRG.out]; rfl), HB0.out.trans (HB2.out.mono HB0.out.size)⟩
  clear x0 x1 x2
  have HFIN := Lib.hid (fun (wz : World) (hb : Below w2.heap.size w2 wz) => HB0.out.trans ((HB2.out.trans (hb.mono HB2.out.size)).mono HB0.out.size))
  have HLOW := Lib.hid (fun (wz : World) (hb : Below w2.heap.size w2 wz) =>
    (show DlIn wz D (.slice ai d.its.length ci) (.slice aw d.ws.length cw) d.root ∧ RdD wz (.slice ai d.its.length ci) (.slice aw d.ws.length cw) d ∧ Reads wz iV (.slice ta tk.length tc) tk from
      ⟨HK.out.below (HB2.out.trans (hb.mono HB2.out.size)) (Nat.le_refl _), HR.out.below (HB2.out.trans (hb.mono HB2.out.size)) (Nat.le_refl _), HT.out.below (HB2.out.trans (hb.mono HB2.out.size)) (Nat.le_refl _)⟩))
  clear HR HT HK HM2
  go_wp2_with fail
  go_loopw [26] (fun i wr => ∃ m : Nat, m ≤ tk.length ∧ i = .int .i64 m ∧ (tk.take m).all (goodN d tk) = true ∧ Below w2.heap.size w2 wr) (fun i _ => tk.length - (intOf i).toNat)
  case atStart => exact ⟨0, by omega, rfl, rfl, Below.refl _ _⟩
  case round =>
    obtain ⟨m, hml, rfl, hall, hb⟩ := hrel
    have HALL := Lib.hid hall
    have HB := Lib.hid hb
    clear hall
    by_cases hlt : m < tk.length
    · obtain ⟨n, hn⟩ : ∃ n, tk[m]? = some n := ⟨_, List.getElem?_eq_getElem hlt⟩
      obtain ⟨⟨x0, x1, x2⟩, hrd, htr⟩ := HLOW.out _ hb
      obtain ⟨tb, hta, hc⟩ := htr.elem hn
      subst hta
      have HN := Lib.hid hn
      have HS := Lib.hid (all_snoc hn (goodN d tk))
      unfold iV at hc
      clear hn hb htr
      by_cases hlow : n < 0
      · have HG := Lib.hid (show goodN d tk n = false by unfold goodN; rw [inB_low hlow]; rfl)
        go_wp2
        go_ret
        exact ⟨ret_bool (HBAD.out _ _ HN.out HG.out).symm, HFIN.out _ HB.out⟩
      have hdl : decide (n < 0) = false := by simpa using hlow
      by_cases hhi : (d.its.length : Int) ≤ n
      · have HG := Lib.hid (show goodN d tk n = false by unfold goodN; rw [inB_high hhi]; rfl)
        go_wp2
        go_ret
        exact ⟨ret_bool (HBAD.out _ _ HN.out HG.out).symm, HFIN.out _ HB.out⟩
      have hn0 : 0 ≤ n := by omega
      have hn1 : n < d.its.length := by omega
      have hdh : decide ((d.its.length : Int) ≤ n) = false := by simpa using hhi
      have HIN := Lib.hid (inB_yes hn0 hn1)
      clear hlow hhi
      obtain ⟨y, hy⟩ : ∃ y, d.its[n.toNat]? = some y := ⟨_, List.getElem?_eq_getElem (by omega)⟩
      have HY := Lib.hid hy
      obtain ⟨ib, hib, hit⟩ := RdI.elem hrd.i hy
      subst hib
      clear hy hit hrd
      go_wp2_with fail
      clear x0 x1 x2 hc
      go_loopw [41] (fun i wr => ∃ q : Nat, q ≤ tk.length ∧ i = .int .i64 q ∧ clash d n (tk.take q) = false ∧ Below w2.heap.size w2 wr) (fun i _ => tk.length - (intOf i).toNat)
      case atStart => exact ⟨0, by omega, rfl, rfl, HB.out⟩
      case round =>
        obtain ⟨q, hql, rfl, hcl, hb⟩ := hrel
        have HCL := Lib.hid hcl
        have HBQ := Lib.hid hb
        clear hcl
        by_cases hltq : q < tk.length
        · obtain ⟨k, hk⟩ : ∃ k, tk[q]? = some k := ⟨_, List.getElem?_eq_getElem hltq⟩
          obtain ⟨⟨x0, x1, x2⟩, hrd, htr⟩ := HLOW.out _ hb
          obtain ⟨tb', hta, hc⟩ := htr.elem hk
          cases hta
          have HKQ := Lib.hid hk
          have HCS := Lib.hid (clash_snoc (d := d) (n := n) hk)
          unfold iV at hc
          clear hk hb htr
          by_cases hlow : k < 0
          · have hd1 : decide (0 ≤ k) = false := by simpa using hlow
            have HIK := Lib.hid (inB_low (n := d.its.length) hlow)
            clear hrd
            go_upto_region 11 with fail
            go_quiet (fail)
            go_wp2
            go_roundw
            case rel => exact ⟨q + 1, by omega, by go_num, by rw [HCS.out, HCL.out, HIK.out]; rfl, below_drewN HBQ.out _⟩
            case measure => simp [intOf]; omega
          have hk0 : 0 ≤ k := by omega
          have hd1 : decide (0 ≤ k) = true := by simpa using hk0
          by_cases hhi : (d.its.length : Int) ≤ k
          · have hd2 : decide (k < (d.its.length : Int)) = false := by simpa using hhi
            have HIK := Lib.hid (inB_high hhi)
            clear hrd
            go_upto_region 11 with fail
            go_quiet (fail)
            go_wp2
            go_roundw
            case rel => exact ⟨q + 1, by omega, by go_num, by rw [HCS.out, HCL.out, HIK.out]; rfl, below_drewN HBQ.out _⟩
            case measure => simp [intOf]; omega
          have hk1 : k < (d.its.length : Int) := by omega
          have hd2 : decide (k < (d.its.length : Int)) = true := by simpa using hk1
          have HIK := Lib.hid (inB_yes hk0 hk1)
          by_cases hkn : k = n
          · have hd3 : (k != n) = false := by simpa using hkn
            have HKN := Lib.hid (show (k == n) = true by simpa using hkn)
            clear hrd hkn
            go_upto_region 11 with fail
            go_quiet (fail)
            go_wp2
            go_roundw
            case rel => exact ⟨q + 1, by omega, by go_num, by rw [HCS.out, HCL.out, HKN.out]; simp, below_drewN HBQ.out _⟩
            case measure => simp [intOf]; omega
          have hd3 : (k != n) = true := by simpa using hkn
          have HKN := Lib.hid (show (k == n) = false by simpa using hkn)
          obtain ⟨x, hx⟩ : ∃ x, d.its[k.toNat]? = some x := ⟨_, List.getElem?_eq_getElem (by omega)⟩
          obtain ⟨b1, e1, hit⟩ := RdI.elem hrd.i hx
          cases e1
          obtain ⟨i0, i1, i2, i3, _⟩ := hit
          obtain ⟨b2, e2, hjt⟩ := RdI.elem hrd.i HY.out
          cases e2
          obtain ⟨j0, j1, j2, j3, _⟩ := hjt
          have hEQ := fun w => eq_key x.k y.k w
          have HSN := Lib.hid (same_at hx HY.out)
          generalize sameK x.k y.k = s at hEQ HSN
          clear hrd hx hkn
          go_upto_region 11 with fail
          go_quiet (fail)
          clear i0 i1 i2 i3 j0 j1 j2 j3 hEQ
          cases s
          · go_wp2
            go_roundw
            case rel => exact ⟨q + 1, by omega, by go_num, by rw [HCS.out, HCL.out, HSN.out]; simp, below_drewN HBQ.out _⟩
            case measure => simp [intOf]; omega
          · go_wp2
            go_ret
            exact ⟨ret_bool (HBAD.out _ _ HN.out (clash_yes HKQ.out HIK.out HKN.out HSN.out)).symm, HFIN.out _ (below_drewN HBQ.out _)⟩
        · have hqe : q = tk.length := by omega
          have hqle : (tk.length : Int) ≤ q := by omega
          have HCE := Lib.hid (show clash d n tk = false by have := HCL.out; rw [hqe, List.take_length] at this; exact this)
          clear hqe
          obtain ⟨⟨x0, x1, x2⟩, hrd, htr⟩ := HLOW.out _ hb
          obtain ⟨ws, hws⟩ : ∃ ws, d.ws[n.toNat]? = some ws := ⟨_, List.getElem?_eq_getElem (by rw [HWL.out]; omega)⟩
          obtain ⟨wb, r, hwb, hcw, hrw⟩ := RdOf.elem hrd.w hws
          subst hwb
          obtain ⟨wa, wc, rfl⟩ := RdOf.shape hrw
          have hwl := RdOf.len hrw
          have hwlI : (ws.length : Int) ≤ 9223372036854775807 := by omega
          have hnl : n < (d.ws.length : Int) := by rw [HWL.out]; exact hn1
          have HGI := Lib.hid (good_is HIN.out HCE.out hws)
          have HRW := Lib.hid hrw
          have HTR := Lib.hid htr
          clear hb hrd hws hrw htr
          go_wp2_with fail
          clear x0 x1 x2 hcw
          go_loop [81] (fun i => ∃ p : Nat, p ≤ ws.length ∧ i = .int .i64 p ∧ wantsOk tk (ws.take p) = true) (fun i => ws.length - (intOf i).toNat)
          case atStart => exact ⟨0, by omega, rfl, rfl⟩
          case round =>
            obtain ⟨p, hpl, rfl, hwo⟩ := hrel
            have HWO := Lib.hid hwo
            clear hwo
            by_cases hltp : p < ws.length
            · obtain ⟨x, hx⟩ : ∃ x, ws[p]? = some x := ⟨_, List.getElem?_eq_getElem hltp⟩
              obtain ⟨xb, r, hxb, hcx, hrx⟩ := RdOf.elem HRW.out hx
              subst hxb
              obtain ⟨xa, xc, rfl⟩ := Reads.shape hrx
              have hxl := hrx.len
              have hxlI : (x.length : Int) ≤ 9223372036854775807 := by omega
              have HRX := Lib.hid hrx
              have HX := Lib.hid hx
              have HS3 := Lib.hid (show wantsOk tk (ws.take (p + 1)) = (wantsOk tk (ws.take p) && wantOk tk x) from all_snoc hx _)
              clear hx hrx
              go_wp2_with fail
              go_loop [11, 87] (fun ok i => ∃ u : Nat, u ≤ x.length ∧ i = .int .i64 u ∧ ok = .bool (wantOk tk (x.take u))) (fun _ i => x.length - (intOf i).toNat)
              case atStart => exact ⟨0, by omega, rfl, rfl⟩
              case round =>
                obtain ⟨u, hul, rfl, rfl⟩ := hrel
                by_cases hltu : u < x.length
                · obtain ⟨k, hk⟩ : ∃ k, x[u]? = some k := ⟨_, List.getElem?_eq_getElem hltu⟩
                  obtain ⟨kb, hkb, hck⟩ := HRX.out.elem hk
                  subst hkb
                  have HWS4 := Lib.hid (wantOk_snoc (tk := tk) hk)
                  unfold iV at hck
                  clear hk
                  generalize wantOk tk (x.take u) = ok at HWS4 ⊢
                  cases ok
                  · have hop := HHAS.out k _ HTR.out
                    generalize hasB tk k = hbk at hop HWS4
                    have HOP := Lib.hid hop
                    clear hop
                    go_wp2_with fail
                    refine HOP.out.mono ?_
                    rintro e w4 ⟨rfl, rfl⟩
                    go_wp2
                    exact ⟨⟨u + 1, by omega, by go_num, by rw [HWS4.out]; rfl⟩, by simp [intOf]; omega⟩
                  · go_wp2
                    exact ⟨⟨u + 1, by omega, by go_num, by rw [HWS4.out]; rfl⟩, by simp [intOf]; omega⟩
                · have hxle : (x.length : Int) ≤ u := by omega
                  have htk : x.take u = x := List.take_of_length_le (by omega)
                  rw [htk]
                  generalize hok : wantOk tk x = ok
                  have HOK2 := Lib.hid hok
                  clear hok htk
                  cases ok
                  · go_wp2
                    go_ret
                    exact ⟨ret_bool (HBAD.out _ _ HN.out (by rw [HGI.out]; exact all_not HX.out HOK2.out)).symm, HFIN.out _ HBQ.out⟩
                  · go_wp2
                    go_roundw
                    case rel => first | exact ⟨p + 1, by omega, by go_num, by rw [HS3.out, HWO.out, HOK2.out]; rfl⟩ | ((repeat apply Exists.intro); exact ⟨⟨p + 1, by omega, by go_num, by rw [HS3.out, HWO.out, HOK2.out]; rfl⟩, rfl⟩)
                    case measure => simp [intOf]; omega
            · have hpe : p = ws.length := by omega
              have hple : (ws.length : Int) ≤ p := by omega
              have HWE := Lib.hid (show wantsOk tk ws = true by have := HWO.out; rw [hpe, List.take_length] at this; exact this)
              clear hpe
              go_wp2
              go_roundw
              case rel => exact ⟨m + 1, by omega, by go_num, by rw [HS.out, HALL.out, HGI.out, HWE.out]; rfl, HBQ.out⟩
              case measure => simp [intOf]; omega
    · have hme : m = tk.length := by omega
      have hmle : (tk.length : Int) ≤ m := by omega
      have HFA := Lib.hid (show tk.all (goodN d tk) = true by have := HALL.out; rw [hme, List.take_length] at this; exact this)
      clear hme hb
      go_wp2
      go_ret
      exact ⟨ret_bool (by rw [HRG.out, HFA.out]; rfl), HFIN.out _ HB.out⟩
end Go.Proofs.Ytgfgajekegfdgaa
