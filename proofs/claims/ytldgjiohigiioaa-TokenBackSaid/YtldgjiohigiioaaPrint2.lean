/-
  Layer 2: contracts of Print and of what it calls. Own work.
-/
import Derived.Test.YtldgjiohigiioaaMem2
import Derived.Test.YtldgjiohigiioaaEscB
import Derived.Test.YtldgjiohigiioaaBld2
import Derived.Test.YtldgjiohigiioaaAttr2
import Derived.Deep.RegionHeld3
namespace Go.Proofs.Ytldgjiohigiioaa
set_option linter.unusedVariables false
set_option linter.unusedSimpArgs false
open Go.RowKit

/-- what an attribute, a tag up to its end, a token is printed as -/
def atP (p : At2) : List UInt8 := 32 :: (p.1 ++ [61, 34] ++ escS true p.2 ++ [34])
def tagP (n : List UInt8) (ats : List At2) : List UInt8 := 60 :: (n ++ ats.flatMap atP)
def prT (k : Int) (n : List UInt8) (ats : List At2) (t : List UInt8) : List UInt8 :=
  if k = 5 then 60 :: 33 :: 45 :: 45 :: (t ++ [45, 45, 62])
  else if k = 6 then 60 :: 63 :: 120 :: 109 :: 108 :: (t ++ [63, 62])
  else if k = 4 then escS false t
  else if k = 3 then 60 :: 47 :: (n ++ [62])
  else if k = 1 then tagP n ats ++ [62]
  else if k = 2 then tagP n ats ++ [47, 62]
  else []
def prM (l : List Tm) : List UInt8 := l.flatMap fun x => prT x.k x.n x.ats x.t
theorem Bld.below {B b : Nat} {bs : List UInt8} {w w' : World} (h : Bld B b bs w) (hb : Below w.heap.size w w') : Bld B b bs w' := by
  have one : ∀ p, Lib.BuilderAt 67 5 B b p (Lib.byteCells bs) w → Lib.BuilderAt 67 5 B b p (Lib.byteCells bs) w' := by
    rintro p ⟨hB, v, hc, hown, hne⟩
    exact ⟨hB, v, (hb.block b (Array.getElem?_eq_some_iff.1 hc).1).trans hc, own_belowG hown hb, hne⟩
  exact h.imp (one _) (one _)
theorem cat_at (n e : List UInt8) : ((⟨#[32]⟩ ++ str n) ++ ⟨#[61, 34]⟩) ++ str e ++ ⟨#[34]⟩ = str (32 :: (n ++ [61, 34] ++ e ++ [34])) := by
  show ((str [32] ++ str n) ++ str [61, 34]) ++ str e ++ str [34] = _
  simp only [app_str]
  simp
theorem esc_ge (b : Bool) (v : List UInt8) : v.length ≤ (escS b v).length := by
  induction v with
  | nil => simp
  | cons c v ih =>
    have : 1 ≤ (esc1 b c).length := by
      unfold esc1
      repeat' split
      all_goals simp
    simp only [escS, List.flatMap_cons, List.length_append, List.length_cons] at ih ⊢
    omega
theorem at_snoc (l : List At2) (k : Nat) (p : At2) (h : l[k]? = some p) : (l.take (k + 1)).flatMap atP = (l.take k).flatMap atP ++ atP p := by rw [take_snoc _ k p h]; simp
theorem at_le (l : List At2) (k : Nat) : ((l.take k).flatMap atP).length ≤ (l.flatMap atP).length := by
  conv => rhs; rw [← List.take_append_drop k l]
  rw [List.flatMap_append, List.length_append]
  omega
set_option maxRecDepth 100000 in
set_option maxHeartbeats 4000000 in
theorem printTag_at (B b : Nat) (acc E n t : List UInt8) (k p0 p1 p2 : Int) (va : Value) (L : List At2) (w0 w : World) (hw0 : w0.heap.size ≤ B) (hb0 : Below w0.heap.size w0 w) (hr : RdAs w0 va L) (hv : ∀ p ∈ L, p.2.length ≤ 2000000)
    (hsz : acc.length + (tagP n L).length + E.length ≤ 100000000) (hB : B ≤ w.heap.size) (hbd : Bld B b acc w) :
    Calls Try.prog 48 #[.pointer (some ⟨b, 0, none⟩), .agg #[.int .i64 k, .string (str n), va, .string (str t), .int .i64 p0, .int .i64 p1, .int .i64 p2], .string (str E)] w
      fun e w' => e = .returned (.tuple #[]) ∧ Bld B b (acc ++ tagP n L ++ E) w' ∧ Below B w w' := by
  obtain ⟨aa, ac, hva⟩ := RdSl.shape hr
  subst hva
  have hla := RdSl.len hr
  have hlaI : (L.length : Int) ≤ 9223372036854775807 := by omega
  obtain ⟨wT, hwT⟩ : ∃ wT, wT = w.alloc (.cells #[.int .i64 k, .string (str n), .slice aa L.length ac, .string (str t), .int .i64 p0, .int .i64 p1, .int .i64 p2] 34) := ⟨_, rfl⟩
  have hbT : Below w.heap.size w wT := by rw [hwT]; exact (Below.refl _ _).alloc (Nat.le_refl _) _
  have hrow : wT.heap[w.heap.size]? = some (.cells #[.int .i64 k, .string (str n), .slice aa L.length ac, .string (str t), .int .i64 p0, .int .i64 p1, .int .i64 p2] 34 (0, 0)) := by rw [hwT]; exact heap_alloc_new w _
  have HR := Lib.hid hr
  have HB0 := Lib.hid hb0
  have HVL := Lib.hid hv
  have HSZ := Lib.hid hsz
  have HBD := Lib.hid (hbd.below hbT)
  have HBT := Lib.hid hbT
  have HROW := Lib.hid hrow
  have hBT : B ≤ wT.heap.size := Nat.le_trans hB hbT.size
  have HBS := Lib.hid hBT
  have hbB : b < w.heap.size := by
    rcases hbd with h | h <;> exact (Array.getElem?_eq_some_iff.1 h.2.choose_spec.1).1
  have HNE := Lib.hid (show w.heap.size ≠ b by omega)
  have HW0 := Lib.hid hw0
  have HBB := Lib.hid hB
  have HWT := Lib.hid hwT
  have hnI : ((str n).size : Int) ≤ 100000000 := by rw [size_str]; simp only [tagP, List.length_cons, List.length_append] at hsz; omega
  have z1 : wT.cell? ⟨w.heap.size, 1, none⟩ = some (.string (str n)) := by rw [cell_of_row wT _ 1 _ _ (0, 0) hrow]; rfl
  have HC1 := Lib.hid (show (⟨#[60]⟩ : ByteArray) ++ str n = str (60 :: n) from app_str [60] n)
  have HWS := Lib.hid (buk_writeString B b acc (str (60 :: n)) wT HBD.out (by rw [size_str]; simp only [tagP, List.length_cons, List.length_append] at hsz ⊢; omega) hBT)
  clear hr hb0 hv hsz hbT hrow hBT hbB hB hbd hw0 hla hwT
  go_enter Try.func48, Try.ntmps48
  go_upto_region 1 with fail
  rw [← HWT.out]
  go_wp2_with fail
  rw [HC1.out]
  refine HWS.out.mono ?_
  rintro e w2 ⟨rfl, hbd2, hb2, hok2⟩
  have hrow2 := hok2 _ _ HROW.out (by simp only [ne_eq, Option.some.injEq]; exact HNE.out) (fun c fz h => by cases h)
  have HBD2 := Lib.hid hbd2
  have HB2 := Lib.hid ((HBT.out.mono HBB.out).trans hb2)
  have HB02 := Lib.hid (HB0.out.trans ((HB2.out.mono HW0.out).mono (Nat.le_refl _)))
  have z2 : w2.cell? ⟨w.heap.size, 2, none⟩ = some (.slice aa L.length ac) := by rw [cell_of_row w2 _ 2 _ _ (0, 0) hrow2]; rfl
  have HS2 := Lib.hid (show B ≤ w2.heap.size from Nat.le_trans HBS.out hb2.size)
  clear z1 hbd2 hb2 hok2 hrow2 hnI
  have hul : (str (60 :: n)).data.toList = 60 :: n := rfl
  go_upto_region 3 with fail
  clear z2 hul
  go_loopw [16] (fun i wr => ∃ q : Nat, q ≤ L.length ∧ i = .int .i64 q ∧ Bld B b (acc ++ 60 :: n ++ (L.take q).flatMap atP) wr ∧ Below B w wr) (fun i _ => L.length - (intOf i).toNat)
  case atStart => exact ⟨0, by omega, rfl, by have := HBD2.out; rw [toList_str] at this; simpa using this, HB2.out⟩
  case round =>
    obtain ⟨q, hq, rfl, hbdr, hbr⟩ := hrel
    have HBDR := Lib.hid hbdr
    have HBR := Lib.hid hbr
    have hBr : B ≤ wr.heap.size := Nat.le_trans HBB.out hbr.size
    have HBRS := Lib.hid hBr
    have HB0R := Lib.hid (HB0.out.trans (hbr.mono HW0.out))
    clear hbdr hbr
    by_cases hlt : q < L.length
    · obtain ⟨x, hx⟩ : ∃ x, L[q]? = some x := ⟨_, List.getElem?_eq_getElem hlt⟩
      obtain ⟨a1, e1, d0, d1⟩ := RdSl.elem (HR.out.below HB0R.out (Nat.le_refl _)) hx
      subst e1
      obtain ⟨an, av⟩ := x
      have HX := Lib.hid hx
      have hvl := HVL.out _ (List.mem_of_getElem? hx)
      obtain ⟨wb, hwb⟩ : ∃ wb, wb = wr.alloc (.cells #[.string (str an), .string (str av)] 46) := ⟨_, rfl⟩
      have hbb : Below wr.heap.size wr wb := by rw [hwb]; exact (Below.refl _ _).alloc (Nat.le_refl _) _
      have hrow : wb.heap[wr.heap.size]? = some (.cells #[.string (str an), .string (str av)] 46 (0, 0)) := by rw [hwb]; exact heap_alloc_new wr _
      have HROWB := Lib.hid hrow
      have HBWB := Lib.hid (HBR.out.trans (hbb.mono hBr))
      have HBDB := Lib.hid (HBDR.out.below hbb)
      have HSB := Lib.hid (Nat.le_trans hBr hbb.size)
      have HWB := Lib.hid hwb
      have hqI : (q : Int) < (L.length : Int) := by omega
      have hlen : acc.length + (60 :: n).length + ((L.take q).flatMap atP).length + (atP (an, av)).length ≤ 100000000 := by
        have h1 := HSZ.out
        have h2 := at_le L (q + 1)
        rw [at_snoc L q _ hx, List.length_append] at h2
        simp only [tagP, List.length_cons, List.length_append] at h1 h2 ⊢
        omega
      have HLEN := Lib.hid hlen
      have hel := esc_ge true av
      have hanI : ((str an).size : Int) ≤ 100000000 := by rw [size_str]; simp only [atP, List.length_cons, List.length_append] at hlen; omega
      have heI : ((str (escS true av)).size : Int) ≤ 100000000 := by rw [size_str]; simp only [atP, List.length_cons, List.length_append] at hlen; omega
      have HES := Lib.hid (fun w => EscB true (str av) (by rw [size_str]; exact hvl) w)
      have HKB := Lib.hid (show wr.heap.size ≠ b by
        have : b < wr.heap.size := by rcases HBDR.out with h | h <;> exact (Array.getElem?_eq_some_iff.1 h.2.choose_spec.1).1
        omega)
      clear hbb hrow hwb hx hlen hel hvl hBr
      go_upto_region 5 with fail
      rw [← HWB.out]
      generalize wr.heap.size = KB at HROWB HKB ⊢
      clear d0 d1
      have C0 := Lib.hid (fun (w1 : World) (h : w1.heap[KB]? = some (.cells #[.string (str an), .string (str av)] 46 (0, 0))) => (show w1.cell? ⟨KB, 0, none⟩ = some (.string (str an)) from by rw [cell_of_row w1 KB 0 _ _ (0, 0) h]; rfl))
      have C1 := Lib.hid (fun (w1 : World) (h : w1.heap[KB]? = some (.cells #[.string (str an), .string (str av)] 46 (0, 0))) => (show w1.cell? ⟨KB, 1, none⟩ = some (.string (str av)) from by rw [cell_of_row w1 KB 1 _ _ (0, 0) h]; rfl))
      have HCAT := Lib.hid (cat_at an (escS true av))
      obtain ⟨ev, hev⟩ : ∃ ev, ev = escS true av := ⟨_, rfl⟩
      rw [toList_str] at HES
      rw [← hev] at heI HES HCAT
      have HEV := Lib.hid hev
      clear hev
      have HWW := Lib.hid (fun w1 (hb : Below wb.heap.size wb w1) => buk_writeString B b (acc ++ 60 :: n ++ (L.take q).flatMap atP) (str (atP (an, av))) w1 (HBDB.out.below hb) (by rw [size_str]; have := HLEN.out; simp only [List.length_append, List.length_cons] at this ⊢; omega) (Nat.le_trans HSB.out hb.size))
      have HAT := Lib.hid (show atP (an, av) = 32 :: (an ++ [61, 34] ++ ev ++ [34]) by rw [HEV.out]; rfl)
      refine wp_region_held_drew (S := (fun (w1 : World) => w1.heap[KB]? = some (.cells #[.string (str an), .string (str av)] 46 (0, 0)))) (by kernel_rfl) (by (try dsimp only); exact HROWB.out) (fun hHeld => ?_)
      have hD : Below wb.heap.size wb wb.drew := (Below.refl _ _).drew
      generalize wb.drew = wd at hHeld hD ⊢
      refine wpAnyH_take (i := 0) (v := ?_) (by (simp only [List.getElem?_toArray, List.getElem?_cons_succ, List.getElem?_cons_zero]; rfl)) (by kernel_rfl) (by kernel_rfl) (by kernel_rfl) (by intro _ _ _ h; exact h) (Or.inl ⟨by rfl, ?_⟩) (by assumption) ?_
      rotate_left
      · (intro w hSw; (try dsimp only at hSw); go_simp; try (with_reducible rfl))
      simp only [Act.put, List.setIfInBounds_toArray, List.set_cons_zero, List.set_cons_succ]
      refine wpAnyH_take (i := 1) (v := ?_) (by (simp only [List.getElem?_toArray, List.getElem?_cons_succ, List.getElem?_cons_zero]; rfl)) (by kernel_rfl) (by kernel_rfl) (by kernel_rfl) (by intro _ _ _ h; exact h) (Or.inl ⟨by rfl, ?_⟩) (by assumption) ?_
      rotate_left
      · (intro w hSw; (try dsimp only at hSw); go_simp; try (with_reducible rfl))
      simp only [Act.put, List.setIfInBounds_toArray, List.set_cons_zero, List.set_cons_succ]
      refine wpAnyH_take (i := 2) (v := ?_) (by (simp only [List.getElem?_toArray, List.getElem?_cons_succ, List.getElem?_cons_zero]; rfl)) (by kernel_rfl) (by kernel_rfl) (by kernel_rfl) (by intro _ _ _ h; exact h) (Or.inl ⟨by rfl, ?_⟩) (by assumption) ?_
      rotate_left
      · (intro w hSw; have q1 := C0.out w hSw; go_simp; try (with_reducible rfl))
      simp only [Act.put, List.setIfInBounds_toArray, List.set_cons_zero, List.set_cons_succ]
      refine wpAnyH_take (i := 3) (v := ?_) (by (simp only [List.getElem?_toArray, List.getElem?_cons_succ, List.getElem?_cons_zero]; rfl)) (by kernel_rfl) (by kernel_rfl) (by kernel_rfl) (by intro _ _ _ h; exact h) (Or.inl ⟨by rfl, ?_⟩) (by assumption) ?_
      rotate_left
      · (intro w hSw; (try dsimp only at hSw); go_simp; first | (with_reducible rfl) | (rw [if_neg (by omega)]; try (with_reducible rfl)))
      simp only [Act.put, List.setIfInBounds_toArray, List.set_cons_zero, List.set_cons_succ]
      refine wpAnyH_take (i := 4) (v := ?_) (by (simp only [List.getElem?_toArray, List.getElem?_cons_succ, List.getElem?_cons_zero]; rfl)) (by kernel_rfl) (by kernel_rfl) (by kernel_rfl) (by intro _ _ _ h; exact h) (Or.inl ⟨by rfl, ?_⟩) (by assumption) ?_
      rotate_left
      · (intro w hSw; (try dsimp only at hSw); go_simp; first | (with_reducible rfl) | (rw [if_neg (by omega)]; try (with_reducible rfl)))
      simp only [Act.put, List.setIfInBounds_toArray, List.set_cons_zero, List.set_cons_succ]
      refine wpAnyH_take (i := 5) (v := ?_) (by (simp only [List.getElem?_toArray, List.getElem?_cons_succ, List.getElem?_cons_zero]; rfl)) (by kernel_rfl) (by kernel_rfl) (by kernel_rfl) (by intro _ _ _ h; exact h) (Or.inl ⟨by rfl, ?_⟩) (by assumption) ?_
      rotate_left
      · (intro w hSw; (try dsimp only at hSw); go_simp; try (with_reducible rfl))
      simp only [Act.put, List.setIfInBounds_toArray, List.set_cons_zero, List.set_cons_succ]
      refine wpAnyH_take (i := 6) (v := ?_) (by (simp only [List.getElem?_toArray, List.getElem?_cons_succ, List.getElem?_cons_zero]; rfl)) (by kernel_rfl) (by kernel_rfl) (by kernel_rfl) (by intro _ _ _ h; exact h) (Or.inl ⟨by rfl, ?_⟩) (by assumption) ?_
      rotate_left
      · (intro w hSw; have q1 := C1.out w hSw; go_simp; try (with_reducible rfl))
      simp only [Act.put, List.setIfInBounds_toArray, List.set_cons_zero, List.set_cons_succ]
      refine wpAnyH_ready (rs := [7]) (by kernel_rfl) (by simp) ?_
      refine AllReadyH.cons (by (simp only [List.getElem?_toArray, List.getElem?_cons_succ, List.getElem?_cons_zero]; rfl)) (fun K hK => ?_) AllReadyH.nil
      go_simp
      go_at_call 47; refine (HES.out _).mono ?_; rintro e w6 ⟨rfl, hb6⟩
      refine hK.out _ _ (by (try dsimp only); exact (hb6.block KB (Array.getElem?_eq_some_iff.1 hHeld).1).trans hHeld) (fun hHeld => ?_)
      clear hK K
      try simp only [Act.put, List.setIfInBounds_toArray, List.set_cons_zero, List.set_cons_succ]
      have hD6 := hD.trans (hb6.mono hD.size)
      clear hb6 hD
      refine wpAnyH_take (i := 8) (v := ?_) (by (simp only [List.getElem?_toArray, List.getElem?_cons_succ, List.getElem?_cons_zero]; rfl)) (by kernel_rfl) (by kernel_rfl) (by kernel_rfl) (by intro _ _ _ h; exact h) (Or.inl ⟨by rfl, ?_⟩) (by assumption) ?_
      rotate_left
      · (intro w hSw; (try dsimp only at hSw); go_simp; first | (with_reducible rfl) | (rw [if_neg (by omega)]; try (with_reducible rfl)))
      simp only [Act.put, List.setIfInBounds_toArray, List.set_cons_zero, List.set_cons_succ]
      refine wpAnyH_take (i := 9) (v := ?_) (by (simp only [List.getElem?_toArray, List.getElem?_cons_succ, List.getElem?_cons_zero]; rfl)) (by kernel_rfl) (by kernel_rfl) (by kernel_rfl) (by intro _ _ _ h; exact h) (Or.inl ⟨by rfl, ?_⟩) (by assumption) ?_
      rotate_left
      · (intro w hSw; (try dsimp only at hSw); go_simp; first | (with_reducible rfl) | (rw [if_neg (by omega)]; try (with_reducible rfl)))
      simp only [Act.put, List.setIfInBounds_toArray, List.set_cons_zero, List.set_cons_succ]
      have HA6 := Lib.hid hD6
      refine wpAnyH_ready (rs := [10]) (by kernel_rfl) (by simp) ?_
      refine AllReadyH.cons (by (simp only [List.getElem?_toArray, List.getElem?_cons_succ, List.getElem?_cons_zero]; rfl)) (fun K hK => ?_) AllReadyH.nil
      go_simp
      rw [HCAT.out, ← HAT.out]; go_at_call 46; refine (HWW.out _ HA6.out).mono ?_; rintro e w7 ⟨rfl, hbd7, hb7, hok7⟩
      refine hK.out _ _ (by (try dsimp only); exact hok7 _ _ hHeld (by simp only [ne_eq, Option.some.injEq]; exact HKB.out) (fun c fz h => by cases h)) (fun hHeld => ?_)
      clear hK K
      try simp only [Act.put, List.setIfInBounds_toArray, List.set_cons_zero, List.set_cons_succ]
      refine wpAnyH_done (by kernel_rfl) ?_ _
      have HB6 := Lib.hid (HBWB.out.trans ((hD6.mono HSB.out).trans hb7))
      have HBD6 := Lib.hid hbd7
      clear hHeld hanI heI hD6 hb7 hbd7 hok7
      go_wp2
      go_roundw
      case rel => exact ⟨q + 1, by omega, by go_num, by rw [at_snoc L q _ HX.out, ← List.append_assoc]; exact HBD6.out, HB6.out⟩
      case measure => simp [intOf]; omega
    · have hle : (L.length : Int) ≤ q := by omega
      have hta : L.take q = L := List.take_of_length_le (by omega)
      have HTA := Lib.hid hta
      have HWE := Lib.hid (buk_writeString B b (acc ++ 60 :: n ++ (L.take q).flatMap atP) (str E) wr HBDR.out (by rw [size_str, hta]; have h1 := HSZ.out; simp only [tagP, List.length_cons, List.length_append] at h1 ⊢; omega) HBRS.out)
      clear hta hBr
      go_wp2_with fail
      refine HWE.out.mono ?_
      rintro e w4 ⟨rfl, hbd4, hb4, _⟩
      have HBD4 := Lib.hid hbd4
      have HB4 := Lib.hid (HBR.out.trans hb4)
      clear hbd4 hb4
      go_wp2
      go_end0
      refine ⟨rfl, ?_, HB4.out⟩
      have := HBD4.out
      rw [HTA.out, toList_str] at this
      simpa [tagP] using this
end Go.Proofs.Ytldgjiohigiioaa
