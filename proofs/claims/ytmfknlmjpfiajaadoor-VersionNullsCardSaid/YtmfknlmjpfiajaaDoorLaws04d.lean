/-
  Layer 4: the card VersionNulls.
-/
import Derived.Test.YtmfknlmjpfiajaaDoorLaws04c
import Derived.Test.YtmfknlmjpfiajaaDoorVerNull
import Derived.Test.YtmfknlmjpfiajaaDoorLower4
import Derived.RegionTactic
import Derived.BigRegion
import Derived.IntWalk
namespace Go.Proofs.YtmfknlmjpfiajaaDoor
set_option linter.unusedVariables false
set_option linter.unusedSimpArgs false
open Go.ChangeShapes Go.WideShapes Go.ChangeAt Go.RowKit
open Go.ChangeMaps (open_string shut_string)

theorem lowB_up {c : UInt8} (h1 : 97 ≤ c.toNat) (h2 : c.toNat ≤ 122) : lowB (c - 32) = lowB c ∧ ((c - 32).toNat : Int) = c.toNat - 32 := by
  have h3 : (32 : UInt8).toNat = 32 := rfl
  have h4 : (c - 32).toNat = c.toNat - 32 := by
    rw [UInt8.toNat_sub_of_le]
    · rfl
    · rw [UInt8.le_iff_toNat_le]; omega
  refine ⟨?_, by omega⟩
  unfold lowB
  rw [if_pos (by omega), if_neg (by omega)]
  rw [← UInt8.toNat_inj, UInt8.toNat_add]
  omega
theorem map_set (u : List UInt8) (k : Nat) (c d : UInt8) (h : u[k]? = some c) (hl : lowB d = lowB c) : (u.set k d).map lowB = u.map lowB := by
  apply List.ext_getElem?
  intro i
  rw [List.getElem?_map, List.getElem?_map]
  by_cases hik : k = i
  · subst hik
    rw [List.getElem?_set_self (List.getElem?_eq_some_iff.1 h).1, h]
    simp [hl]
  · rw [List.getElem?_set_ne hik]
theorem app_data4 (a : List UInt8) (x : Array UInt8) : (⟨x⟩ : ByteArray) ++ str a = str (x.toList ++ a) := by
  apply ByteArray.ext
  rw [ByteArray.data_append]
  simp [str]
theorem app_any4 (x : Array UInt8) (s : ByteArray) : (⟨x⟩ : ByteArray) ++ s = str (x.toList ++ s.data.toList) := by
  have h := app_data4 s.data.toList x
  rw [str_toList] at h
  exact h
theorem cmp_str4 (x y : ByteArray) (a b : List UInt8) (r : Int) (hx : x = str a) (hy : y = str b) (ha : a.length ≤ 1000) (hb : b.length ≤ 1000) (hr : cmpB a b = r) (w : World) :
    Calls Tryd.prog 20 #[.string x, .string y] w fun e w' => e = .returned (.int .i64 r) ∧ Below w.heap.size w w' := by
  subst hx hy
  exact cmp_at _ _ r (by rw [size_str]; omega) (by rw [size_str]; omega) hr w
set_option maxHeartbeats 8000000 in
set_option maxRecDepth 100000 in
theorem nulls_main (s : ByteArray) (hs : s.size ≤ 64) (how : Int) (hh : 0 ≤ how ∧ how ≤ 18446744073709551615) (w : World) (hm : ∀ w, Calls Tryd.prog 14 #[.string s] w fun e w' => e = .returned (.bool true) ∧ w' = w) :
    Calls Tryd.prog 9 #[.string s, .int .u64 how] w fun e w' => e = .returned (.bool true) ∧ Below w.heap.size w w' := by
  have HMAY := Lib.hid hm; clear hm
  obtain ⟨hh1, hh2⟩ := hh
  have hlen : s.data.toList.length = s.size := by simp
  have HL := Lib.hid hlen; clear hlen
  have hcv := Lib.run_convert_string_bytes (P := Tryd.prog) w 9 37 5 s Tryd.underlying9 Tryd.underlying37 Tryd.underlying5
  have hwb := bytes_below w 5 s
  have hwf := bytes_free w 5 s
  have hwc := Lib.bytesWorld_cell w 5 s
  have hwz := Lib.bytesWorld_size w 5 s
  obtain ⟨wb, hwbe⟩ : ∃ wb, wb = Lib.bytesWorld w 5 s := ⟨_, rfl⟩
  obtain ⟨cap, hcap⟩ : ∃ cap, cap = grownCap w s.size 0 5 := ⟨_, rfl⟩
  rw [← hwbe] at hcv hwb hwf hwc hwz
  rw [← hcap] at hcv
  clear hwbe hcap
  have HWC := Lib.hid hwc; clear hwc
  have HWF := Lib.hid hwf; clear hwf
  have HWZ := Lib.hid hwz; clear hwz
  go_enter Tryd.func9, Tryd.ntmps9
  go_wp2_with fail
  refine (HMAY.out _).mono ?_
  rintro e w0 ⟨rfl, rfl⟩
  go_wp2
  go_loopw [17] (fun i wr => ∃ (k : Nat) (u : List UInt8), k ≤ s.size ∧ i = .int .i64 k ∧ u.length = s.size ∧ u.map lowB = s.data.toList.map lowB ∧ Below w0.heap.size w0 wr ∧ w0.heap.size < wr.heap.size ∧
    (∀ (j : Nat) c, u[j]? = some c → wr.cell? ⟨w0.heap.size, j, none⟩ = some (.int .u8 c.toNat)) ∧ (∀ j, j < s.size → wr.frozen? ⟨w0.heap.size, j, none⟩ = false)) (fun i _ => s.size - (intOf i).toNat)
  case atStart =>
    refine ⟨0, s.data.toList, Nat.zero_le _, rfl, HL.out, rfl, hwb, by rw [HWZ.out]; omega, fun j c hj => ?_, HWF.out⟩
    have hjl : j < s.size := by have := (List.getElem?_eq_some_iff.1 hj).1; rw [HL.out] at this; exact this
    rw [HWC.out j hjl]
    congr 2
    rw [List.getD_eq_getElem?_getD, hj]; rfl
  case round =>
    obtain ⟨k, u, hk, rfl, hul, hum, hb, hsz, hcell, hfr⟩ := hrel
    have HC := Lib.hid hcell; clear hcell
    have HF := Lib.hid hfr; clear hfr
    have HUL := Lib.hid hul; clear hul
    have HUM := Lib.hid hum; clear hum
    by_cases hlt : k < s.size
    · obtain ⟨c, hc⟩ : ∃ c, u[k]? = some c := ⟨_, List.getElem?_eq_getElem (by rw [HUL.out]; exact hlt)⟩
      have hck := HC.out k c hc
      have hfk := HF.out k hlt
      have HCK := Lib.hid hc; clear hc
      have hc256 : (c.toNat : Int) < 256 := by have := c.toNat_lt; omega
      by_cases hr : 97 ≤ c.toNat ∧ c.toNat ≤ 122
      · obtain ⟨hl1, hl2⟩ := lowB_up hr.1 hr.2
        have HL1 := Lib.hid hl1
        have HL2 := Lib.hid hl2
        have a1 : (97 : Int) ≤ c.toNat := by omega
        have a2 : (c.toNat : Int) ≤ 122 := by omega
        clear hr hl1 hl2
        go_wp2
        · refine ⟨⟨k + 1, u.set k (c - 32), by omega, by go_num, by rw [List.length_set, HUL.out], (map_set u k c (c - 32) HCK.out HL1.out).trans HUM.out, hb.setCell (p := ⟨w0.heap.size, k, none⟩) (Nat.le_refl _) _, by simpa [World.setCell] using hsz, fun j d hj => ?_, fun j hj => (World.frozen?_setCell _ _ _ _).trans (HF.out j hj)⟩, by simp [intOf]; omega⟩
          by_cases hjk : k = j
          · subst hjk
            rw [List.getElem?_set_self (List.getElem?_eq_some_iff.1 HCK.out).1] at hj
            have hd : c - 32 = d := by injection hj
            rw [World.cell?_setCell_same _ _ _ hck, ← hd, HL2.out]
          · rw [List.getElem?_set_ne hjk] at hj
            rw [World.cell?_setCell_other _ _ _ _ (by simp <;> omega)]
            exact HC.out j d hj
        · exact ⟨⟨k + 1, u, by omega, by go_num, HUL.out, HUM.out, hb, hsz, HC.out, HF.out⟩, by simp [intOf]; omega⟩
      · have hcase : (c.toNat : Int) < 97 ∨ (97 : Int) ≤ c.toNat ∧ (122 : Int) < c.toNat := by omega
        clear hr
        rcases hcase with a1 | ⟨a0, a1⟩
        all_goals
          go_wp2
          go_roundw
          case rel => exact ⟨k + 1, u, by omega, by go_num, HUL.out, HUM.out, hb, hsz, HC.out, HF.out⟩
          case measure => simp [intOf]; omega
    · have hk2 : k = s.size := by omega
      have HK := Lib.hid hk2; clear hk2
      have hconv := fun (W : World) (hW : ∀ (j : Nat) c, u[j]? = some c → W.cell? ⟨w0.heap.size, j, none⟩ = some (.int .u8 c.toNat)) => run_convert_bytes_arg W 37 5 Tryd.underlying37 Tryd.underlying5 w0.heap.size 0 s.size cap (u.map (fun c => (c.toNat : Int))) (by simp [HUL.out]) (fun i hi => by
        rw [Nat.zero_add]
        obtain ⟨c, hc⟩ : ∃ c, u[i]? = some c := ⟨_, List.getElem?_eq_getElem (by rw [HUL.out]; exact hi)⟩
        rw [hW i c hc]
        simp [hc]) 9 Tryd.underlying9
      have hstr : strOfNums (u.map (fun c => (c.toNat : Int))) = str u := by
        unfold strOfNums str
        congr 2
        rw [List.map_map]
        conv => rhs; rw [← List.map_id u]
        apply List.map_congr_left
        intro c _
        simp
      rw [hstr] at hconv
      have hc1 := hconv wr.drew HC.out
      have hc2 := fun o => hconv (wr.alloc o).drew (fun j c hj => (World.cell?_alloc_lt wr o ⟨w0.heap.size, j, none⟩ hsz).trans (HC.out j c hj))
      clear hconv hstr
      have hus : (str u).size ≤ 64 := by rw [size_str, HUL.out]; exact hs
      have HFIN := Lib.hid (fun q : List UInt8 => fun (hq : partsB (u ++ q) = partsB u) => show cmpB s.data.toList (u ++ q) = 0 by
        unfold cmpB
        rw [hq, low_same HUM.out, cmpL_ord.self])
      obtain ⟨H, hH⟩ : ∃ H, H = how / 65536 := ⟨_, rfl⟩
      have hH0 : 0 ≤ H := by omega
      have hH2 : how / 2 ^ 16 = H := by rw [hH]; rfl
      have hH1 : how / 65536 = H := hH.symm
      have hHb : H ≤ 281474976710655 := by omega
      clear hH
      have hj : H % 8 = 0 ∨ H % 8 = 1 ∨ H % 8 = 2 ∨ H % 8 = 3 ∨ H % 8 = 4 ∨ H % 8 = 5 ∨ H % 8 = 6 ∨ H % 8 = 7 := by omega
      have htm : H.tmod 8 = H % 8 := Int.tmod_eq_emod_of_nonneg hH0
      have C2 := Lib.hid (fun w => cmp_str4 (⟨#[49, 46]⟩ ++ s) (⟨#[48, 49, 46]⟩ ++ s) (49 :: 46 :: s.data.toList) (48 :: 49 :: 46 :: s.data.toList) 0 (app_any4 #[49, 46] s) (app_any4 #[48, 49, 46] s) (by simp; omega) (by simp; omega) (by unfold cmpB; rw [nought_one, cmpL_ord.self]) w)
      rcases hj with hj | hj | hj | hj | hj | hj | hj | hj
      · rw [hj] at htm
        have C1 := Lib.hid (fun w => cmp_str4 s (str u ++ ⟨#[]⟩) s.data.toList (u ++ []) 0 (str_toList s).symm (app_lit _ _) (by rw [HL.out]; omega) (by rw [List.length_append, HUL.out]; simp; omega) (HFIN.out _ (by rw [List.append_nil])) w)
        go_wp2
        go_region
        go_wp2_with fail
        refine (C1.out _).mono ?_
        rintro e x1 ⟨rfl, hb1⟩
        go_wp2_with fail
        refine (C2.out _).mono ?_
        rintro e x2 ⟨rfl, hb2⟩
        go_wp2_with fail
        refine (lives04 _).mono ?_
        rintro e x3 ⟨rfl, hb3⟩
        have z1 : wr.heap.size + 1 ≤ x1.heap.size := by have := hb1.size; simpa using this
        have z2 := hb2.size
        have z0 : w0.heap.size ≤ wr.heap.size := by omega
        go_wp2
        go_ret
        exact ⟨rfl, ((((hb.alloc z0 _).drew).trans (hb1.mono (by simp; omega))).trans (hb2.mono (by omega))).trans (hb3.mono (by omega))⟩
      · rw [hj] at htm
        have C1 := Lib.hid (fun w => cmp_str4 s (str u ++ ⟨#[46, 48]⟩) s.data.toList (u ++ [46, 48]) 0 (str_toList s).symm (app_lit _ _) (by rw [HL.out]; omega) (by rw [List.length_append, HUL.out]; simp; omega) (HFIN.out _ (null_1 u)) w)
        go_wp2
        go_region
        go_wp2_with fail
        refine (C1.out _).mono ?_
        rintro e x1 ⟨rfl, hb1⟩
        go_wp2_with fail
        refine (C2.out _).mono ?_
        rintro e x2 ⟨rfl, hb2⟩
        go_wp2_with fail
        refine (lives04 _).mono ?_
        rintro e x3 ⟨rfl, hb3⟩
        have z1 : wr.heap.size + 1 ≤ x1.heap.size := by have := hb1.size; simpa using this
        have z2 := hb2.size
        have z0 : w0.heap.size ≤ wr.heap.size := by omega
        go_wp2
        go_ret
        exact ⟨rfl, ((((hb.alloc z0 _).drew).trans (hb1.mono (by simp; omega))).trans (hb2.mono (by omega))).trans (hb3.mono (by omega))⟩
      · rw [hj] at htm
        have C1 := Lib.hid (fun w => cmp_str4 s (str u ++ ⟨#[45, 48]⟩) s.data.toList (u ++ [45, 48]) 0 (str_toList s).symm (app_lit _ _) (by rw [HL.out]; omega) (by rw [List.length_append, HUL.out]; simp; omega) (HFIN.out _ (null_2 u)) w)
        go_wp2
        go_region
        go_wp2_with fail
        refine (C1.out _).mono ?_
        rintro e x1 ⟨rfl, hb1⟩
        go_wp2_with fail
        refine (C2.out _).mono ?_
        rintro e x2 ⟨rfl, hb2⟩
        go_wp2_with fail
        refine (lives04 _).mono ?_
        rintro e x3 ⟨rfl, hb3⟩
        have z1 : wr.heap.size + 1 ≤ x1.heap.size := by have := hb1.size; simpa using this
        have z2 := hb2.size
        have z0 : w0.heap.size ≤ wr.heap.size := by omega
        go_wp2
        go_ret
        exact ⟨rfl, ((((hb.alloc z0 _).drew).trans (hb1.mono (by simp; omega))).trans (hb2.mono (by omega))).trans (hb3.mono (by omega))⟩
      · rw [hj] at htm
        have C1 := Lib.hid (fun w => cmp_str4 s (str u ++ ⟨#[46, 103, 97]⟩) s.data.toList (u ++ [46, 103, 97]) 0 (str_toList s).symm (app_lit _ _) (by rw [HL.out]; omega) (by rw [List.length_append, HUL.out]; simp; omega) (HFIN.out _ (null_3 u)) w)
        go_wp2
        go_region
        go_wp2_with fail
        refine (C1.out _).mono ?_
        rintro e x1 ⟨rfl, hb1⟩
        go_wp2_with fail
        refine (C2.out _).mono ?_
        rintro e x2 ⟨rfl, hb2⟩
        go_wp2_with fail
        refine (lives04 _).mono ?_
        rintro e x3 ⟨rfl, hb3⟩
        have z1 : wr.heap.size + 1 ≤ x1.heap.size := by have := hb1.size; simpa using this
        have z2 := hb2.size
        have z0 : w0.heap.size ≤ wr.heap.size := by omega
        go_wp2
        go_ret
        exact ⟨rfl, ((((hb.alloc z0 _).drew).trans (hb1.mono (by simp; omega))).trans (hb2.mono (by omega))).trans (hb3.mono (by omega))⟩
      · rw [hj] at htm
        have C1 := Lib.hid (fun w => cmp_str4 s (str u ++ ⟨#[45, 102, 105, 110, 97, 108]⟩) s.data.toList (u ++ [45, 102, 105, 110, 97, 108]) 0 (str_toList s).symm (app_lit _ _) (by rw [HL.out]; omega) (by rw [List.length_append, HUL.out]; simp; omega) (HFIN.out _ (null_4 u)) w)
        go_wp2
        go_region
        go_wp2_with fail
        refine (C1.out _).mono ?_
        rintro e x1 ⟨rfl, hb1⟩
        go_wp2_with fail
        refine (C2.out _).mono ?_
        rintro e x2 ⟨rfl, hb2⟩
        go_wp2_with fail
        refine (lives04 _).mono ?_
        rintro e x3 ⟨rfl, hb3⟩
        have z1 : wr.heap.size + 1 ≤ x1.heap.size := by have := hb1.size; simpa using this
        have z2 := hb2.size
        have z0 : w0.heap.size ≤ wr.heap.size := by omega
        go_wp2
        go_ret
        exact ⟨rfl, ((((hb.alloc z0 _).drew).trans (hb1.mono (by simp; omega))).trans (hb2.mono (by omega))).trans (hb3.mono (by omega))⟩
      · rw [hj] at htm
        have C1 := Lib.hid (fun w => cmp_str4 s (str u ++ ⟨#[46, 48, 46, 48]⟩) s.data.toList (u ++ [46, 48, 46, 48]) 0 (str_toList s).symm (app_lit _ _) (by rw [HL.out]; omega) (by rw [List.length_append, HUL.out]; simp; omega) (HFIN.out _ (null_5 u)) w)
        go_wp2
        go_region
        go_wp2_with fail
        refine (C1.out _).mono ?_
        rintro e x1 ⟨rfl, hb1⟩
        go_wp2_with fail
        refine (C2.out _).mono ?_
        rintro e x2 ⟨rfl, hb2⟩
        go_wp2_with fail
        refine (lives04 _).mono ?_
        rintro e x3 ⟨rfl, hb3⟩
        have z1 : wr.heap.size + 1 ≤ x1.heap.size := by have := hb1.size; simpa using this
        have z2 := hb2.size
        have z0 : w0.heap.size ≤ wr.heap.size := by omega
        go_wp2
        go_ret
        exact ⟨rfl, ((((hb.alloc z0 _).drew).trans (hb1.mono (by simp; omega))).trans (hb2.mono (by omega))).trans (hb3.mono (by omega))⟩
      · rw [hj] at htm
        have C1 := Lib.hid (fun w => cmp_str4 s (str u ++ ⟨#[45, 82, 69, 76, 69, 65, 83, 69]⟩) s.data.toList (u ++ [45, 82, 69, 76, 69, 65, 83, 69]) 0 (str_toList s).symm (app_lit _ _) (by rw [HL.out]; omega) (by rw [List.length_append, HUL.out]; simp; omega) (HFIN.out _ (null_6 u)) w)
        go_wp2
        go_region
        go_wp2_with fail
        refine (C1.out _).mono ?_
        rintro e x1 ⟨rfl, hb1⟩
        go_wp2_with fail
        refine (C2.out _).mono ?_
        rintro e x2 ⟨rfl, hb2⟩
        go_wp2_with fail
        refine (lives04 _).mono ?_
        rintro e x3 ⟨rfl, hb3⟩
        have z1 : wr.heap.size + 1 ≤ x1.heap.size := by have := hb1.size; simpa using this
        have z2 := hb2.size
        have z0 : w0.heap.size ≤ wr.heap.size := by omega
        go_wp2
        go_ret
        exact ⟨rfl, ((((hb.alloc z0 _).drew).trans (hb1.mono (by simp; omega))).trans (hb2.mono (by omega))).trans (hb3.mono (by omega))⟩
      · rw [hj] at htm
        have C1 := Lib.hid (fun w => cmp_str4 s (str u ++ ⟨#[46, 48, 48]⟩) s.data.toList (u ++ [46, 48, 48]) 0 (str_toList s).symm (app_lit _ _) (by rw [HL.out]; omega) (by rw [List.length_append, HUL.out]; simp; omega) (HFIN.out _ (null_7 u)) w)
        go_wp2
        go_region
        go_wp2_with fail
        refine (C1.out _).mono ?_
        rintro e x1 ⟨rfl, hb1⟩
        go_wp2_with fail
        refine (C2.out _).mono ?_
        rintro e x2 ⟨rfl, hb2⟩
        go_wp2_with fail
        refine (lives04 _).mono ?_
        rintro e x3 ⟨rfl, hb3⟩
        have z1 : wr.heap.size + 1 ≤ x1.heap.size := by have := hb1.size; simpa using this
        have z2 := hb2.size
        have z0 : w0.heap.size ≤ wr.heap.size := by omega
        go_wp2
        go_ret
        exact ⟨rfl, ((((hb.alloc z0 _).drew).trans (hb1.mono (by simp; omega))).trans (hb2.mono (by omega))).trans (hb3.mono (by omega))⟩

set_option maxHeartbeats 4000000 in
theorem walk_VersionNulls (s : ByteArray) (hs : s.size ≤ 9223372036854775807) (how : Int) (hh : 0 ≤ how ∧ how ≤ 18446744073709551615) (w : World) :
    Calls Tryd.prog 9 #[.string s, .int .u64 how] w fun e w' => e = .returned (.bool true) ∧ Below w.heap.size w w' := by
  have m1 := fun w => refMayVer_big s hs w
  cases hmv : mayVer s
  · rw [hmv] at m1
    have M1 := Lib.hid m1
    clear m1 hs hmv hh
    go_enter Tryd.func9, Tryd.ntmps9
    go_wp2_with fail
    refine (M1.out _).mono ?_
    rintro e w1 ⟨rfl, rfl⟩
    go_wp2_with fail
    refine (lives04 _).mono ?_
    rintro e w2 ⟨rfl, hb⟩
    go_wp2
    go_ret
    exact ⟨rfl, hb⟩
  · rw [hmv] at m1
    have hsz : s.size ≤ 64 := by
      unfold mayVer at hmv
      simp only [Bool.and_eq_true, decide_eq_true_eq] at hmv
      exact hmv.1.2
    exact nulls_main s hsz how hh w m1

theorem laid_met_VersionNulls (os : Os) : laidMet Tryd.prog Rows.versionNullsRow.laid ((laidWorld #[.string .empty, .int .u64 0] os).forCall (fun _ _ => 0) ⟨#[], #[.string .empty, .int .u64 0], []⟩).memory :=
  laidMet_of_run' 8 (by kernel_rfl) (by kernel_rfl)
theorem reads_VersionNulls (os : Os) {H : Type} (enc : TypeId × Value → H) : ∃ places, DataW.whole enc Tryd.prog ((laidWorld #[.string .empty, .int .u64 0] os).forCall (fun _ _ => 0) ⟨#[], #[.string .empty, .int .u64 0], []⟩).memory Tryd.f9.params.toList Rows.versionNullsSpec.vars false (#[.string .empty, .int .u64 0] : Array Value).toList 8 = some ([.lit (.string []), .lit (.int .u64 0)], [], places) :=
  ⟨[], by kernel_rfl⟩
set_option maxRecDepth 100000 in
theorem lifted_VersionNulls (os : Os) (started : os.Started) (H : Type) (enc : TypeId × Value → H) (F : Stop.Interp) :
    ReturnsInHanded {} Tryd.checked os 9 .any ((OpenSpec.ofChange Rows.versionNullsSpec).preRow enc Tryd.prog Tryd.f9 Rows.versionNullsRow.domain false Rows.versionNullsRow.laid) (((OpenSpec.ofChange Rows.versionNullsSpec).at F).post enc Tryd.prog Tryd.f9 false true false false) := by
  obtain ⟨places, hx⟩ := reads_VersionNulls os enc
  refine returnsInHanded_of_row (C := Tryd.checked) (s := OpenSpec.ofChange Rows.versionNullsSpec) own_knob started (by kernel_rfl) Tryd.func9
    (witness_row_at (enc := enc) (C := Tryd.checked) false (laidWorld #[.string .empty, .int .u64 0] os) #[.string .empty, .int .u64 0] rfl (by kernel_rfl) (by kernel_rfl) (by kernel_rfl)
      (OpenSpec.preRow_of_cond 8 hx (by kernel_rfl) (fun k hk => by cases hk) (by kernel_rfl) (laid_met_VersionNulls os))) ?_
  intro W base args ds gs before hval0 hW _ _ _ _ hsh _
  have hval : ∀ (j : Nat) t v, Tryd.f9.params[j]? = some t → args[j]? = some v → Value.okWide Tryd.prog W .any base t v := hval0
  have hW' := hW
  obtain ⟨p, q, hA0, hV, rfl, _, _⟩ := hW
  have hA : DataW.TrodAll enc Tryd.prog W 0 (fun _ => true) true Tryd.f9.params.toList args.toList ds p := hA0
  rw [Tryd.params9] at hA hval
  obtain ⟨v0, vs0, d0, ds0, p0, q0, hargs, rfl, rfl, h0, r0⟩ := trodAll_cons hA
  obtain ⟨v1, vs1, d1, ds1, p1, q1, rfl, rfl, rfl, h1, r1⟩ := trodAll_cons r0
  obtain ⟨rfl, rfl, rfl⟩ := trodAll_nil r1
  obtain rfl : args = #[v0, v1] := by cases args; simp_all
  obtain ⟨rfl, rfl⟩ := trodVars_none hV
  obtain ⟨a0, rfl, rfl, rfl, w0⟩ := open_string Tryd.underlying9 (hval 0 9 v0 rfl rfl) h0
  obtain ⟨a1, rfl, rfl, rfl, w1⟩ := open_int Tryd.underlying36 (hval 1 36 v1 rfl rfl) h1
  clear hA0 hval0
  refine (walk_VersionNulls a0 (by unfold maxLen at w0; exact w0) a1 (wf_u64 w1) W).mono fun e W' ⟨he, hb⟩ => ?_
  subst he
  exact ⟨_, rfl, law_post (by kernel_rfl) rfl rfl rfl hW' hb⟩
theorem said_VersionNulls : Rows.VersionNullsSaid :=
  OpenClaim.holds_of_cond 9 Tryd.f9 rfl rfl rfl rfl rfl rfl rfl ⟨rfl, rfl, rfl, rfl, rfl⟩ rfl rfl rfl rfl rfl (by kernel_rfl) Tryd.func9 (by kernel_rfl)
    (of_decide_eq_true (by kernel_rfl)) (by unfold Func.isWrapper; first | (rw [if_pos (by decide +kernel)]; kernel_rfl) | (rw [if_neg (by decide +kernel)]; exact ⟨rfl, rfl⟩))
    (fun os started H enc _ F => by rw [OpenClaim.pre_eq_preRow]; exact lifted_VersionNulls os started H enc F)
theorem plain_VersionNulls (f : FuncId) (fn : Func) (hf : Tryd.pinned.checked.prog.funcNamed "pomace/pomacelaw04.VersionNulls" = some f) (hfn : Tryd.pinned.checked.prog.funcs[f]? = some fn) :
    false = Tryd.pinned.checked.prog.looks [] ∧ ∀ (j : Nat) t, fn.params[j]? = some t → Tryd.pinned.checked.prog.wantsStandIn t = false := by
  obtain rfl : f = 9 := Option.some.inj ((show Tryd.prog.funcNamed "pomace/pomacelaw04.VersionNulls" = some 9 by kernel_rfl).symm.trans hf) |>.symm
  obtain rfl : fn = Tryd.f9 := (Option.some.inj (Tryd.func9.symm.trans hfn)).symm
  refine ⟨by kernel_rfl, fun j t ht => ?_⟩
  rw [Tryd.params9] at ht
  have h := Array.mem_of_getElem? ht
  simp only [List.mem_toArray, List.mem_cons, List.not_mem_nil, or_false] at h
  rcases h with rfl | rfl
  all_goals first
    | exact (show Tryd.prog.wantsStandIn 9 = false by kernel_rfl)
    | exact (show Tryd.prog.wantsStandIn 36 = false by kernel_rfl)

/-- the statement of VersionNulls: its card -/
theorem proved_VersionNulls : Rows.VersionNullsCardSaid :=
  Claim7.holds_tied_plain_at .later [] _ _ _ _ said_VersionNulls (fun _ h => by cases h) (by kernel_rfl) (fun _ h => by cases h) versionNulls_row_tie rfl ⟨rfl, rfl⟩ (by kernel_rfl) rfl plain_VersionNulls (by kernel_rfl)

end Go.Proofs.YtmfknlmjpfiajaaDoor
