/-
  Layer 24: what a lock is printed as, by the document's answer. Own work.
-/
import Derived.Test.YtcmojpfolmcaoaaDoorRefMay24
import Derived.Test.YtcmojpfolmcaoaaDoorPrn24
import Derived.Test.YtcmojpfolmcaoaaDoorNum24
namespace Go.Proofs.YtcmojpfolmcaoaaDoor
set_option linter.unusedVariables false
set_option linter.unusedSimpArgs false
open Go.RowKit

theorem refPrintKey_any (g a t c : ByteArray) (hg : g.size ≤ 1000000) (ha : a.size ≤ 1000000) (ht : t.size ≤ 1000000) (hc : c.size ≤ 1000000) (w : World) :
    Calls Tryd.prog 30 #[keyV g a t c] w fun e w' => e = .returned (.string (printKey g a t c)) ∧ Below w.heap.size w w' := by
  have hemp := isEmpty_beq c
  unfold printKey keyV
  by_cases h0 : c.size = 0
  · rw [decide_eq_true h0] at hemp
    rw [if_pos h0]
    go_enter Tryd.func30, Tryd.ntmps30
    go_wp2
    go_ret
    exact ⟨rfl, by repeat (first | exact Below.refl _ _ | refine below_al' _ ?_ (Nat.le_refl _))⟩
  · rw [decide_eq_false h0] at hemp
    rw [if_neg h0]
    go_enter Tryd.func30, Tryd.ntmps30
    go_wp2
    go_ret
    exact ⟨rfl, by repeat (first | exact Below.refl _ _ | refine below_al' _ ?_ (Nat.le_refl _))⟩
theorem cat_pin (a b c : ByteArray) : (((((⟨#[112, 105, 110, 32]⟩ ++ a) ++ ⟨#[32]⟩) ++ b) ++ ⟨#[32]⟩) ++ c) ++ ⟨#[10]⟩ = str (wPin ++ 32 :: (a.data.toList ++ 32 :: (b.data.toList ++ 32 :: c.data.toList)) ++ [10]) := by
  apply ByteArray.ext
  apply Array.toList_inj.1
  simp [ByteArray.data_append, str, wPin]
theorem cat_head (g a v : ByteArray) : (((((⟨#[112, 111, 109, 97, 99, 101, 32, 49, 10, 114, 111, 111, 116, 32]⟩ ++ g) ++ ⟨#[58]⟩) ++ a) ++ ⟨#[58]⟩) ++ v) ++ ⟨#[10]⟩ = str (headL g a v) := by
  apply ByteArray.ext
  apply Array.toList_inj.1
  simp [ByteArray.data_append, str, headL, wFirst, rootLine, wRoot, printGav]
theorem cat_end (s n : ByteArray) : ((s ++ ⟨#[101, 110, 100, 32]⟩) ++ n) ++ ⟨#[10]⟩ = s ++ str (wEndS ++ n.data.toList ++ [10]) := by
  apply ByteArray.ext
  apply Array.toList_inj.1
  simp [ByteArray.data_append, str, wEndS]
set_option maxRecDepth 100000 in
set_option maxHeartbeats 4000000 in
theorem refPrint_any (g a v : ByteArray) (hg : g.size ≤ 10000) (ha : a.size ≤ 10000) (hv : v.size ≤ 10000) (pv : Value) (l : List Pn) (hok : ∀ p ∈ l, okQ p) (hl : l.length ≤ 10000) (w : World) (hr : RdN w pv l) :
    Calls Tryd.prog 12 #[lockV g a v pv] w fun e w' => e = .returned (.string (str (printL g a v l))) ∧ Below w.heap.size w w' := by
  obtain ⟨pa, pc, rfl⟩ := hr.shape
  have hlI : (l.length : Int) ≤ 10000 := by omega
  have hpl := printL_eq g a v l
  generalize printL g a v l = out at hpl ⊢
  have HPL := Lib.hid hpl
  have HHL := Lib.hid (headL_len g a v hg ha hv)
  have HCH := Lib.hid (cat_head g a v)
  have HR := Lib.hid hr
  have HOK := Lib.hid hok
  have HB0 := Lib.hid (show Below w.heap.size w (w.alloc (.cells #[.string g, .string a, .string v, .slice pa l.length pc] 26)) from (Below.refl w.heap.size w).alloc (Nat.le_refl _) _)
  have hlk := LkIn.new w g a v (.slice pa l.length pc)
  clear hr hok hpl
  unfold lockV
  go_enter Tryd.func12, Tryd.ntmps12
  go_upto_region 2 with fail
  generalize w.alloc (.cells #[.string g, .string a, .string v, .slice pa l.length pc] 26) = w1 at HB0 hlk ⊢
  have HLK := Lib.hid hlk
  obtain ⟨y0, y1, y2, y3⟩ := hlk
  rw [HCH.out]
  go_wp2_with fail
  clear y0 y1 y2 y3
  go_loopw [24, 3] (fun i sv wr => ∃ (k : Nat) (u : ByteArray), k ≤ l.length ∧ i = .int .i64 k ∧ sv = .string u ∧ u = str (headL g a v ++ pinLines (l.take k)) ∧ Below w1.heap.size w1 wr) (fun i _ _ => l.length - (intOf i).toNat)
  case atStart => exact ⟨0, _, by omega, rfl, rfl, by simp [pinLines], Below.refl _ _⟩
  case round =>
    obtain ⟨k, u, hk, rfl, rfl, hu, hb⟩ := hrel
    have HB := Lib.hid hb
    have hbw := HB0.out.trans (hb.mono HB0.out.size)
    have HBW := Lib.hid hbw
    have hacc : u.size ≤ 30100 + 10000 * 50020 := by
      have h1 := pinLines_len (l.take k) (fun p hp => HOK.out p (List.mem_of_mem_take hp))
      have h2 : (l.take k).length ≤ 10000 := by rw [List.length_take]; omega
      have h3 := HHL.out
      rw [hu, size_str, List.length_append]
      omega
    have HU := Lib.hid hu
    clear hu
    by_cases hlt : k < l.length
    · obtain ⟨p, hp⟩ : ∃ p, l[k]? = some p := ⟨_, List.getElem?_eq_getElem hlt⟩
      obtain ⟨b, rfl, _, _, _, hc⟩ := HR.out.elem hp
      obtain ⟨k0, k1, k2, k3, k4, k5⟩ := RdN.at hc hp hbw (Nat.le_refl _)
      have hq := HOK.out p (List.mem_of_getElem? hp)
      have hltI : (k : Int) < l.length := by omega
      have hpk := fun w => refPrintKey_any p.g p.a p.t p.c (by have := hq.1; omega) (by have := hq.2.1; omega) (by have := hq.2.2.1; omega) (by have := hq.2.2.2.1; omega) w
      have hpks : (printKey p.g p.a p.t p.c).size ≤ 40003 := by have := printKey_size p.g p.a p.t p.c; have := hq.1; have := hq.2.1; have := hq.2.2.1; have := hq.2.2.2.1; omega
      have hwd := fun w => refWord_any p.sc w
      have hwds : (wordS p.sc).size ≤ 8 := wordS_size p.sc
      have hvs : p.v.size ≤ 10000 := hq.2.2.2.2
      have hcat := cat_pin (printKey p.g p.a p.t p.c) p.v (wordS p.sc)
      have hpl : wPin ++ 32 :: ((printKey p.g p.a p.t p.c).data.toList ++ 32 :: (p.v.data.toList ++ 32 :: (wordS p.sc).data.toList)) ++ [10] = pinLine p ++ [10] := by simp [pinLine]
      rw [hpl] at hcat
      unfold keyV at hpk
      generalize printKey p.g p.a p.t p.c = ks at hpk hpks hcat
      generalize wordS p.sc = ws at hwd hwds hcat
      have HPK := Lib.hid hpk
      have HWD := Lib.hid hwd
      have HCAT := Lib.hid hcat
      have HP := Lib.hid hp
      have HIN := Lib.hid (PinIn.new wr p)
      have HBA := Lib.hid (show Below wr.heap.size wr (wr.alloc (.cells #[.string p.g, .string p.a, .string p.t, .string p.c, .string p.v, .int .i64 p.sc] 42)) from (Below.refl _ _).alloc (Nat.le_refl _) _)
      clear hpk hwd hcat hpl hp hq hc hb hbw
      go_upto_region 5 with fail
      generalize wr.alloc (.cells #[.string p.g, .string p.a, .string p.t, .string p.c, .string p.v, .int .i64 p.sc] 42) = wa at HIN HBA ⊢
      generalize wr.heap.size = b5 at HIN ⊢
      obtain ⟨y0, y1, y2, y3, y4, y5⟩ := HIN.out
      have hba := Below.refl wa.heap.size wa
      have f1 : ¬ (9223372036854775807 < 4 + ks.size) := by omega
      have f2 : ¬ (9223372036854775807 < 4 + ks.size + 1) := by omega
      have f3 : ¬ (9223372036854775807 < 4 + ks.size + 1 + p.v.size) := by omega
      have f4 : ¬ (9223372036854775807 < 4 + ks.size + 1 + p.v.size + 1) := by omega
      have f5 : ¬ (9223372036854775807 < 4 + ks.size + 1 + p.v.size + 1 + ws.size) := by omega
      have f6 : ¬ (9223372036854775807 < 4 + ks.size + 1 + p.v.size + 1 + ws.size + 1) := by omega
      have f7 : ¬ (9223372036854775807 < u.size + (4 + ks.size + 1 + p.v.size + 1 + ws.size + 1)) := by omega
      clear k0 k1 k2 k3 k4 k5
      go_region_held3 (fun w' => w'.cell? ⟨b5, 0, none⟩ = some (.string p.g) ∧ w'.cell? ⟨b5, 1, none⟩ = some (.string p.a) ∧ w'.cell? ⟨b5, 2, none⟩ = some (.string p.t) ∧ w'.cell? ⟨b5, 3, none⟩ = some (.string p.c) ∧ w'.cell? ⟨b5, 4, none⟩ = some (.string p.v) ∧ w'.cell? ⟨b5, 5, none⟩ = some (.int .i64 p.sc) ∧ Below wa.heap.size wa w')
        (first | with_reducible exact keep6d ⟨y0, y1, y2, y3, y4, y5, hba⟩ | with_reducible exact keep6p (by assumption) (by assumption))
        (first
          | (go_at_call 30; (with_reducible refine (HPK.out _).mono ?_); rintro e wq ⟨rfl, hbq⟩)
          | (go_at_call 31; (with_reducible refine (HWD.out _).mono ?_); rintro e wq ⟨rfl, hbq⟩))
      rename_i wz hS
      have HBZ := Lib.hid (HB.out.trans ((HBA.out.trans ((keep6b hS).mono HBA.out.size)).mono HB.out.size))
      clear hS y0 y1 y2 y3 y4 y5 hba f1 f2 f3 f4 f5 f6 f7
      rw [HCAT.out]
      go_wp2
      go_roundw
      case rel =>
        refine ⟨k + 1, _, by omega, by go_num, rfl, ?_, HBZ.out⟩
        rw [HU.out, app_str, List.append_assoc, ← pinLines_snoc, ← take_snoc _ k p HP.out]
      case measure => simp [intOf]; omega
    · have hkl : k = l.length := by omega
      have hlt' : (l.length : Int) ≤ k := by omega
      have HF := Lib.hid (show u = str (headL g a v ++ pinLines l) by have := HU.out; rw [hkl, List.take_of_length_le (Nat.le_refl _)] at this; exact this)
      have hnum := fun w => Number_any l.length (by omega) w
      have hns : (str (Lib.itoa (l.length : Int))).size ≤ 21 := by rw [size_str]; exact itoa_len l.length (by omega)
      have hcat := cat_end u (str (Lib.itoa (l.length : Int)))
      have hfin : u ++ str (wEndS ++ (str (Lib.itoa (l.length : Int))).data.toList ++ [10]) = str out := by
        rw [HF.out, HPL.out, app_str]
        unfold endLine
        rw [str_data]
      rw [hfin] at hcat
      generalize str (Lib.itoa (l.length : Int)) = sn at hnum hns hcat
      have HNUM := Lib.hid hnum
      have HCAT := Lib.hid hcat
      obtain ⟨y0, y1, y2, y3⟩ := HLK.out.below hb (Nat.le_refl _)
      clear hkl hb hbw hnum hcat hfin
      go_wp2_with fail
      refine (HNUM.out _).mono ?_
      rintro e w7 ⟨rfl, hb7⟩
      have HB7 := Lib.hid (HBW.out.trans (hb7.mono HBW.out.size))
      clear hb7
      go_wp2
      go_ret
      exact ⟨ret_str HCAT.out, HB7.out⟩
end Go.Proofs.YtcmojpfolmcaoaaDoor
