/-
  Layer 24: the card LockMays: which locks may be, what any is printed as, and whether two are the same. For every input. Own work.
-/
import Derived.Test.YtcmojpfolmcaoaaDoorLives24
import Derived.Test.YtcmojpfolmcaoaaDoorRefPrn24
import Derived.Test.YtcmojpfolmcaoaaDoorLight24
import Derived.Test.YtcmojpfolmcaoaaDoorDoor24
namespace Go.Proofs.YtcmojpfolmcaoaaDoor
set_option linter.unusedVariables false
set_option linter.unusedSimpArgs false
open Go.ChangeShapes Go.WideShapes Go.ChangeAt Go.RowKit
open Go.ChangeMaps (open_string shut_string)

theorem keepM {w w1 w2 : World} {A0 A1 A2 A3 A4 A5 A6 A7 : Addr} {x0 x1 x2 x3 x4 x5 x6 x7 v u : Value} {l m : List Pn} (h : w1.cell? A0 = some x0 ∧ w1.cell? A1 = some x1 ∧ w1.cell? A2 = some x2 ∧ w1.cell? A3 = some x3 ∧ w1.cell? A4 = some x4 ∧ w1.cell? A5 = some x5 ∧ w1.cell? A6 = some x6 ∧ w1.cell? A7 = some x7 ∧ RdN w1 v l ∧ RdN w1 u m ∧ Below w.heap.size w w1) (hb : Below w1.heap.size w1 w2) : w2.cell? A0 = some x0 ∧ w2.cell? A1 = some x1 ∧ w2.cell? A2 = some x2 ∧ w2.cell? A3 = some x3 ∧ w2.cell? A4 = some x4 ∧ w2.cell? A5 = some x5 ∧ w2.cell? A6 = some x6 ∧ w2.cell? A7 = some x7 ∧ RdN w2 v l ∧ RdN w2 u m ∧ Below w.heap.size w w2 := by
  obtain ⟨h0, h1, h2, h3, h4, h5, h6, h7, hr, hs, hw⟩ := h
  have hc : ∀ {A : Addr} {x : Value}, w1.cell? A = some x → w2.cell? A = some x := fun hx => (hb.cell (World.block_lt_of_cell? w1 _ hx)).trans hx
  exact ⟨hc h0, hc h1, hc h2, hc h3, hc h4, hc h5, hc h6, hc h7, hr.below hb (Nat.le_refl _), hs.below hb (Nat.le_refl _), hw.trans (hb.mono hw.size)⟩
theorem keepMd {w w1 : World} {A0 A1 A2 A3 A4 A5 A6 A7 : Addr} {x0 x1 x2 x3 x4 x5 x6 x7 v u : Value} {l m : List Pn} (h : w1.cell? A0 = some x0 ∧ w1.cell? A1 = some x1 ∧ w1.cell? A2 = some x2 ∧ w1.cell? A3 = some x3 ∧ w1.cell? A4 = some x4 ∧ w1.cell? A5 = some x5 ∧ w1.cell? A6 = some x6 ∧ w1.cell? A7 = some x7 ∧ RdN w1 v l ∧ RdN w1 u m ∧ Below w.heap.size w w1) : w1.drew.cell? A0 = some x0 ∧ w1.drew.cell? A1 = some x1 ∧ w1.drew.cell? A2 = some x2 ∧ w1.drew.cell? A3 = some x3 ∧ w1.drew.cell? A4 = some x4 ∧ w1.drew.cell? A5 = some x5 ∧ w1.drew.cell? A6 = some x6 ∧ w1.drew.cell? A7 = some x7 ∧ RdN w1.drew v l ∧ RdN w1.drew u m ∧ Below w.heap.size w w1.drew := by
  obtain ⟨h0, h1, h2, h3, h4, h5, h6, h7, hr, hs, hw⟩ := h
  exact ⟨h0, h1, h2, h3, h4, h5, h6, h7, hr, hs, hw.drew⟩
theorem belowM {w w1 : World} {A0 A1 A2 A3 A4 A5 A6 A7 : Addr} {x0 x1 x2 x3 x4 x5 x6 x7 v u : Value} {l m : List Pn} (h : w1.cell? A0 = some x0 ∧ w1.cell? A1 = some x1 ∧ w1.cell? A2 = some x2 ∧ w1.cell? A3 = some x3 ∧ w1.cell? A4 = some x4 ∧ w1.cell? A5 = some x5 ∧ w1.cell? A6 = some x6 ∧ w1.cell? A7 = some x7 ∧ RdN w1 v l ∧ RdN w1 u m ∧ Below w.heap.size w w1) : Below w.heap.size w w1 := by
  obtain ⟨h0, h1, h2, h3, h4, h5, h6, h7, hr, hs, hw⟩ := h
  exact hw
theorem rdM1 {w w1 : World} {A0 A1 A2 A3 A4 A5 A6 A7 : Addr} {x0 x1 x2 x3 x4 x5 x6 x7 v u : Value} {l m : List Pn} (h : w1.cell? A0 = some x0 ∧ w1.cell? A1 = some x1 ∧ w1.cell? A2 = some x2 ∧ w1.cell? A3 = some x3 ∧ w1.cell? A4 = some x4 ∧ w1.cell? A5 = some x5 ∧ w1.cell? A6 = some x6 ∧ w1.cell? A7 = some x7 ∧ RdN w1 v l ∧ RdN w1 u m ∧ Below w.heap.size w w1) : RdN w1 v l := by
  obtain ⟨h0, h1, h2, h3, h4, h5, h6, h7, hr, hs, hw⟩ := h
  exact hr
theorem rdM2 {w w1 : World} {A0 A1 A2 A3 A4 A5 A6 A7 : Addr} {x0 x1 x2 x3 x4 x5 x6 x7 v u : Value} {l m : List Pn} (h : w1.cell? A0 = some x0 ∧ w1.cell? A1 = some x1 ∧ w1.cell? A2 = some x2 ∧ w1.cell? A3 = some x3 ∧ w1.cell? A4 = some x4 ∧ w1.cell? A5 = some x5 ∧ w1.cell? A6 = some x6 ∧ w1.cell? A7 = some x7 ∧ RdN w1 v l ∧ RdN w1 u m ∧ Below w.heap.size w w1) : RdN w1 u m := by
  obtain ⟨h0, h1, h2, h3, h4, h5, h6, h7, hr, hs, hw⟩ := h
  exact hs
theorem sameP_self (p : Pn) : sameP p p = true := by simp [sameP]
theorem sameLk_self (g a v : ByteArray) (l : List Pn) : sameLk g a v l g a v l = true := by
  unfold sameLk sameG
  rw [sameL_yes rfl (fun i hi => by rw [sameAt_is (List.getElem?_eq_getElem hi) (List.getElem?_eq_getElem hi)]; exact sameP_self _)]
  simp
theorem light_okP {g a v : ByteArray} {l : List Pn} (h : lightP g a v l) : ∀ p ∈ l, okP p := fun p hp => by
  have := h.2.2 p hp
  refine ⟨?_, ?_, ?_, ?_, ?_⟩ <;> unfold okT <;> omega
theorem light_okQ {g a v : ByteArray} {l : List Pn} (h : lightP g a v l) : ∀ p ∈ l, okQ p := fun p hp => by
  have := h.2.2 p hp
  refine ⟨?_, ?_, ?_, ?_, ?_⟩ <;> omega
set_option maxRecDepth 100000 in
set_option maxHeartbeats 4000000 in
theorem walk_LockMays (g1 a1 u1 : ByteArray) (pv1 : Value) (l1 : List Pn) (og1 : okR g1) (oa1 : okR a1) (ou1 : okR u1) (ol1 : ∀ p ∈ l1, okK p) (w : World) (rd1 : RdN w pv1 l1)
    (g2 a2 u2 : ByteArray) (pv2 : Value) (l2 : List Pn) (og2 : okR g2) (oa2 : okR a2) (ou2 : okR u2) (ol2 : ∀ p ∈ l2, okK p) (rd2 : RdN w pv2 l2) (hT : Tb w) :
    Calls Tryd.prog 3 #[lockV g1 a1 u1 pv1, lockV g2 a2 u2 pv2] w fun e w' => e = .returned (.bool true) ∧ Below w.heap.size w w' := by
  obtain ⟨p1, c1, rfl⟩ := rd1.shape
  obtain ⟨p2, c2, rfl⟩ := rd2.shape
  have HT := Lib.hid hT
  have HLV := Lib.hid (fun w' (hb : Below w.heap.size w w') => lives_any w' (hT.below hb (Nat.le_refl _)))
  have HL1 := Lib.hid (fun w' hr => Light_any g1 a1 u1 og1 oa1 ou1 (.slice p1 l1.length c1) l1 ol1 w' hr)
  have HL2 := Lib.hid (fun w' hr => Light_any g2 a2 u2 og2 oa2 ou2 (.slice p2 l2.length c2) l2 ol2 w' hr)
  have hk1 : LkIn ((w.alloc (.cells #[.string g1, .string a1, .string u1, .slice p1 l1.length c1] 26)).alloc (.cells #[.string g2, .string a2, .string u2, .slice p2 l2.length c2] 26)) w.heap.size g1 a1 u1 (.slice p1 l1.length c1) := (LkIn.new w g1 a1 u1 (.slice p1 l1.length c1)).below ((Below.refl _ _).alloc (Nat.le_refl _) _) (Nat.le_refl _)
  have hk2 : LkIn ((w.alloc (.cells #[.string g1, .string a1, .string u1, .slice p1 l1.length c1] 26)).alloc (.cells #[.string g2, .string a2, .string u2, .slice p2 l2.length c2] 26)) (w.heap.size + 1) g2 a2 u2 (.slice p2 l2.length c2) := by
    have := LkIn.new (w.alloc (.cells #[.string g1, .string a1, .string u1, .slice p1 l1.length c1] 26)) g2 a2 u2 (.slice p2 l2.length c2)
    simpa using this
  have hb0 : Below w.heap.size w ((w.alloc (.cells #[.string g1, .string a1, .string u1, .slice p1 l1.length c1] 26)).alloc (.cells #[.string g2, .string a2, .string u2, .slice p2 l2.length c2] 26)) := ((Below.refl w.heap.size w).alloc (Nat.le_refl _) _).alloc (by simp) _
  clear hT
  unfold lockV
  go_enter Tryd.func3, Tryd.ntmps3
  go_upto_region 1 with fail
  generalize ((w.alloc (.cells #[.string g1, .string a1, .string u1, .slice p1 l1.length c1] 26)).alloc (.cells #[.string g2, .string a2, .string u2, .slice p2 l2.length c2] 26)) = w1 at hk1 hk2 hb0 ⊢
  have HK1 := Lib.hid hk1
  have HK2 := Lib.hid hk2
  have HB0 := Lib.hid hb0
  have HR1 := Lib.hid (rd1.below hb0 (Nat.le_refl _))
  have HR2 := Lib.hid (rd2.below hb0 (Nat.le_refl _))
  obtain ⟨x0, x1, x2, x3⟩ := hk1
  obtain ⟨y0, y1, y2, y3⟩ := hk2
  clear hb0 rd1 rd2
  unfold lockV at HL1 HL2
  go_wp2_with fail
  refine (HL1.out _ HR1.out).mono ?_
  rintro e w2 ⟨b1, rfl, hli1, hb2⟩
  have HB12 := Lib.hid hb2
  have HLI1 := Lib.hid hli1
  clear x0 x1 x2 x3 y0 y1 y2 y3 hli1
  obtain ⟨x0, x1, x2, x3⟩ := HK1.out.below hb2 (Nat.le_refl _)
  obtain ⟨y0, y1, y2, y3⟩ := HK2.out.below hb2 (Nat.le_refl _)
  clear hb2
  cases b1
  · have HBF := Lib.hid (HB0.out.trans (HB12.out.mono HB0.out.size))
    clear x0 x1 x2 x3 y0 y1 y2 y3
    go_wp2_with fail
    refine (HLV.out _ HBF.out).mono ?_
    rintro e w7 ⟨rfl, hb7⟩
    have HB7 := Lib.hid (HBF.out.trans (hb7.mono HBF.out.size))
    clear hb7
    go_wp2
    go_ret
    exact ⟨rfl, HB7.out⟩
  go_wp2_with fail
  refine (HL2.out _ (HR2.out.below HB12.out (Nat.le_refl _))).mono ?_
  rintro e w3 ⟨b2, rfl, hli2, hb3⟩
  have HB13 := Lib.hid (HB12.out.trans (hb3.mono HB12.out.size))
  have HLI2 := Lib.hid hli2
  clear x0 x1 x2 x3 y0 y1 y2 y3 hli2 hb3
  cases b2
  · have HBF := Lib.hid (HB0.out.trans (HB13.out.mono HB0.out.size))
    go_wp2_with fail
    refine (HLV.out _ HBF.out).mono ?_
    rintro e w7 ⟨rfl, hb7⟩
    have HB7 := Lib.hid (HBF.out.trans (hb7.mono HBF.out.size))
    clear hb7
    go_wp2
    go_ret
    exact ⟨rfl, HB7.out⟩
  have hl1 : lightP g1 a1 u1 l1 := HLI1.out trivial
  have hl2 : lightP g2 a2 u2 l2 := (by first | exact HLI2.out rfl | exact HLI2.out trivial)
  have HM := Lib.hid (fun w' hr => MayL_any g1 a1 u1 (by unfold okT; have := hl1.2.1; omega) (by unfold okT; have := hl1.2.1; omega) (by unfold okT; have := hl1.2.1; omega) (.slice p1 l1.length c1) l1 (light_okP hl1) (by have := hl1.1; omega) w' hr)
  have HRM := Lib.hid (fun w' hr => refMay_any g1 a1 u1 (by unfold okT; have := hl1.2.1; omega) (by unfold okT; have := hl1.2.1; omega) (by unfold okT; have := hl1.2.1; omega) (.slice p1 l1.length c1) l1 (light_okP hl1) (by have := hl1.1; omega) w' hr)
  have HPR := Lib.hid (fun w' hr (hb : Below w.heap.size w w') => Print_any g1 a1 u1 (by have := hl1.2.1; omega) (by have := hl1.2.1; omega) (by have := hl1.2.1; omega) (.slice p1 l1.length c1) l1 (light_okQ hl1) (by have := hl1.1; omega) w' hr (HT.out.below hb (Nat.le_refl _)))
  have HRP := Lib.hid (fun w' hr => refPrint_any g1 a1 u1 (by have := hl1.2.1; omega) (by have := hl1.2.1; omega) (by have := hl1.2.1; omega) (.slice p1 l1.length c1) l1 (light_okQ hl1) (by have := hl1.1; omega) w' hr)
  have HS := Lib.hid (fun w' hr hs => Same_any g1 a1 u1 g2 a2 u2 (.slice p1 l1.length c1) (.slice p2 l2.length c2) l1 l2 (by have := hl1.1; omega) (by have := hl2.1; omega) w' hr hs)
  have HRS := Lib.hid (fun w' hr hs => refSame_any g1 a1 u1 g2 a2 u2 (.slice p1 l1.length c1) (.slice p2 l2.length c2) l1 l2 (by have := hl1.1; omega) (by have := hl2.1; omega) w' hr hs)
  have HSS := Lib.hid (fun w' hr => Same_any g1 a1 u1 g1 a1 u1 (.slice p1 l1.length c1) (.slice p1 l1.length c1) l1 l1 (by have := hl1.1; omega) (by have := hl1.1; omega) w' hr hr)
  rw [sameLk_self] at HSS
  generalize mayLock g1 a1 u1 l1 = m at HM HRM
  generalize str (printL g1 a1 u1 l1) = out at HPR HRP
  generalize sameLk g1 a1 u1 l1 g2 a2 u2 l2 = sm at HS HRS
  unfold lockV at HM HRM HPR HRP HS HRS HSS
  have hm1 : (m == m) = true := by simp
  have hm2 : (out.toList == out.toList) = true := by simp
  have hm3 : (sm == sm) = true := by simp
  have hb3 := HB0.out.trans (HB13.out.mono HB0.out.size)
  have hr1 := HR1.out.below HB13.out (Nat.le_refl _)
  have hr2 := HR2.out.below HB13.out (Nat.le_refl _)
  obtain ⟨x0, x1, x2, x3⟩ := HK1.out.below HB13.out (Nat.le_refl _)
  obtain ⟨y0, y1, y2, y3⟩ := HK2.out.below HB13.out (Nat.le_refl _)
  clear hl1 hl2
  go_upto_region 3 with fail
  go_region_held3 (fun w' => w'.cell? ⟨w.heap.size, 0, none⟩ = some (.string g1) ∧ w'.cell? ⟨w.heap.size, 1, none⟩ = some (.string a1) ∧ w'.cell? ⟨w.heap.size, 2, none⟩ = some (.string u1) ∧ w'.cell? ⟨w.heap.size, 3, none⟩ = some (.slice p1 l1.length c1) ∧ w'.cell? ⟨w.heap.size + 1, 0, none⟩ = some (.string g2) ∧ w'.cell? ⟨w.heap.size + 1, 1, none⟩ = some (.string a2) ∧ w'.cell? ⟨w.heap.size + 1, 2, none⟩ = some (.string u2) ∧ w'.cell? ⟨w.heap.size + 1, 3, none⟩ = some (.slice p2 l2.length c2) ∧ RdN w' (.slice p1 l1.length c1) l1 ∧ RdN w' (.slice p2 l2.length c2) l2 ∧ Below w.heap.size w w')
    (first | with_reducible exact keepMd ⟨x0, x1, x2, x3, y0, y1, y2, y3, hr1, hr2, hb3⟩ | with_reducible exact keepM (by assumption) (by assumption))
    (first
      | (go_at_call 9; (with_reducible refine (HM.out _ (rdM1 (by assumption))).mono ?_); rintro e wq ⟨rfl, hbq⟩)
      | (go_at_call 10; (with_reducible refine (HRM.out _ (rdM1 (by assumption))).mono ?_); rintro e wq ⟨rfl, hbq⟩)
      | (go_at_call 11; (with_reducible refine (HPR.out _ (rdM1 (by assumption)) (belowM (by assumption))).mono ?_); rintro e wq ⟨rfl, hbq⟩)
      | (go_at_call 12; (with_reducible refine (HRP.out _ (rdM1 (by assumption))).mono ?_); rintro e wq ⟨rfl, hbq⟩)
      | (go_at_call 13; first | (with_reducible refine (HS.out _ (rdM1 (by assumption)) (rdM2 (by assumption))).mono ?_; rintro e wq ⟨rfl, hbq⟩) | (with_reducible refine (HSS.out _ (rdM1 (by assumption))).mono ?_; rintro e wq ⟨rfl, hbq⟩))
      | (go_at_call 14; (with_reducible refine (HRS.out _ (rdM1 (by assumption)) (rdM2 (by assumption))).mono ?_); rintro e wq ⟨rfl, hbq⟩)
      | (go_at_call 8; (with_reducible refine (HLV.out _ (belowM (by assumption))).mono ?_); rintro e wq ⟨rfl, hbq⟩))
  rename_i hS
  have HFIN := Lib.hid (belowM hS)
  clear hS
  go_wp2
  go_ret
  exact ⟨rfl, HFIN.out⟩

theorem laid_met_LockMays (os : Os) : laidMet Tryd.prog Rows.lockMaysRow.laid ((laidWorld #[.agg #[.string .empty, .string .empty, .string .empty, .slice none 0 0], .agg #[.string .empty, .string .empty, .string .empty, .slice none 0 0]] os).forCall (fun _ _ => 0) ⟨#[], #[.agg #[.string .empty, .string .empty, .string .empty, .slice none 0 0], .agg #[.string .empty, .string .empty, .string .empty, .slice none 0 0]], []⟩).memory :=
  laidMet_of_run' 8 (by kernel_rfl) (by kernel_rfl)
theorem reads_LockMays (os : Os) {H : Type} (enc : TypeId × Value → H) : ∃ places, DataW.whole enc Tryd.prog ((laidWorld #[.agg #[.string .empty, .string .empty, .string .empty, .slice none 0 0], .agg #[.string .empty, .string .empty, .string .empty, .slice none 0 0]] os).forCall (fun _ _ => 0) ⟨#[], #[.agg #[.string .empty, .string .empty, .string .empty, .slice none 0 0], .agg #[.string .empty, .string .empty, .string .empty, .slice none 0 0]], []⟩).memory Tryd.f3.params.toList Rows.lockMaysSpec.vars false (#[.agg #[.string .empty, .string .empty, .string .empty, .slice none 0 0], .agg #[.string .empty, .string .empty, .string .empty, .slice none 0 0]] : Array Value).toList 8 = some ([.agg [.agg [.lit (.string []), .lit (.string []), .lit (.string [])], .nil], .agg [.agg [.lit (.string []), .lit (.string []), .lit (.string [])], .nil]], [], places) :=
  ⟨[], by kernel_rfl⟩
set_option maxRecDepth 100000 in
theorem lifted_LockMays (os : Os) (started : os.Started) (H : Type) (enc : TypeId × Value → H) (F : Stop.Interp) :
    ReturnsInHanded {} Tryd.checked os 3 .any ((OpenSpec.ofChange Rows.lockMaysSpec).preRow enc Tryd.prog Tryd.f3 Rows.lockMaysRow.domain false Rows.lockMaysRow.laid) (((OpenSpec.ofChange Rows.lockMaysSpec).at F).post enc Tryd.prog Tryd.f3 false true false false) := by
  obtain ⟨places, hx⟩ := reads_LockMays os enc
  refine returnsInHanded_of_row (C := Tryd.checked) (s := OpenSpec.ofChange Rows.lockMaysSpec) own_knob started (by kernel_rfl) Tryd.func3
    (witness_row_at (enc := enc) (C := Tryd.checked) false (laidWorld #[.agg #[.string .empty, .string .empty, .string .empty, .slice none 0 0], .agg #[.string .empty, .string .empty, .string .empty, .slice none 0 0]] os) #[.agg #[.string .empty, .string .empty, .string .empty, .slice none 0 0], .agg #[.string .empty, .string .empty, .string .empty, .slice none 0 0]] rfl (by kernel_rfl) (by kernel_rfl) (by kernel_rfl)
      (OpenSpec.preRow_of_cond 8 hx (by kernel_rfl) (fun k hk => by cases hk) (by kernel_rfl) (laid_met_LockMays os))) ?_
  intro W base args ds gs before hval0 hW _ _ hz hL hsh _
  have hT : Tb W := tb_of hsh hL (.tail _ (.tail _ (.head _)))
  have hval : ∀ (j : Nat) t v, Tryd.f3.params[j]? = some t → args[j]? = some v → Value.okWide Tryd.prog W .any base t v := hval0
  have hW' := hW
  obtain ⟨p, q, hA0, hV, rfl, _, _⟩ := hW
  have hA : DataW.TrodAll enc Tryd.prog W 0 (fun _ => true) true Tryd.f3.params.toList args.toList ds p := hA0
  rw [Tryd.params3] at hA hval
  obtain ⟨v0, vs0, d0, ds0, p0, q0, hargs, rfl, rfl, h0, r0⟩ := trodAll_cons hA
  obtain ⟨v1, vs1, d1, ds1, p1, q1, rfl, rfl, rfl, h1, r1⟩ := trodAll_cons r0
  obtain ⟨rfl, rfl, rfl⟩ := trodAll_nil r1
  obtain rfl : args = #[v0, v1] := by cases args; simp_all
  obtain ⟨rfl, rfl⟩ := trodVars_none hV
  obtain ⟨g0, a0, u0, pv0, l0, rfl, rd0, og0, oa0, ou0, ol0⟩ := open_lock (hval 0 26 v0 rfl rfl) h0 (wb_arg hz (j := 0) rfl rfl)
  obtain ⟨g1, a1, u1, pv1, l1, rfl, rd1, og1, oa1, ou1, ol1⟩ := open_lock (hval 1 26 v1 rfl rfl) h1 (wb_arg hz (j := 1) rfl rfl)
  clear hA0 hval0
  refine (walk_LockMays g0 a0 u0 pv0 l0 og0 oa0 ou0 ol0 W rd0 g1 a1 u1 pv1 l1 og1 oa1 ou1 ol1 rd1 hT).mono fun e W' ⟨he, hb⟩ => ?_
  subst he
  exact ⟨_, rfl, law_post (by kernel_rfl) rfl rfl rfl hW' hb⟩
theorem said_LockMays : Rows.LockMaysSaid :=
  OpenClaim.holds_of_cond 3 Tryd.f3 rfl rfl rfl rfl rfl rfl rfl ⟨rfl, rfl, rfl, rfl, rfl⟩ rfl rfl rfl rfl rfl (by kernel_rfl) Tryd.func3 (by kernel_rfl)
    (of_decide_eq_true (by kernel_rfl)) (by unfold Func.isWrapper; first | (rw [if_pos (by decide +kernel)]; kernel_rfl) | (rw [if_neg (by decide +kernel)]; exact ⟨rfl, rfl⟩))
    (fun os started H enc _ F => by rw [OpenClaim.pre_eq_preRow]; exact lifted_LockMays os started H enc F)
set_option maxRecDepth 100000 in
theorem plain_LockMays (f : FuncId) (fn : Func) (hf : Tryd.pinned.checked.prog.funcNamed "pomace/pomacelaw24.LockMays" = some f) (hfn : Tryd.pinned.checked.prog.funcs[f]? = some fn) :
    false = Tryd.pinned.checked.prog.looks [] ∧ ∀ (j : Nat) t, fn.params[j]? = some t → Tryd.pinned.checked.prog.wantsStandIn t = false := by
  obtain rfl : f = 3 := Option.some.inj ((show Tryd.prog.funcNamed "pomace/pomacelaw24.LockMays" = some 3 by kernel_rfl).symm.trans hf) |>.symm
  obtain rfl : fn = Tryd.f3 := (Option.some.inj (Tryd.func3.symm.trans hfn)).symm
  refine ⟨by kernel_rfl, fun j t ht => ?_⟩
  rw [Tryd.params3] at ht
  have h := Array.mem_of_getElem? ht
  simp only [List.mem_toArray, List.mem_cons, List.not_mem_nil, or_false] at h
  rcases h with rfl | rfl
  all_goals first
    | exact (show Tryd.prog.wantsStandIn 26 = false by kernel_rfl)

/-- the statement of LockMays: its card -/
theorem proved_LockMays : Rows.LockMaysCardSaid :=
  Claim7.holds_tied_plain_at .later [] _ _ _ _ said_LockMays (fun _ h => by cases h) (by kernel_rfl) (fun _ h => by cases h) lockMays_row_tie rfl ⟨rfl, rfl⟩ (by kernel_rfl) rfl plain_LockMays (by kernel_rfl)
end Go.Proofs.YtcmojpfolmcaoaaDoor
