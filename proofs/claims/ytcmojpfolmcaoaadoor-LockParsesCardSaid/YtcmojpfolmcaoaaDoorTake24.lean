/-
  Layer 24: the contract of the reader's method take. Own work.
-/
import Derived.Test.YtcmojpfolmcaoaaDoorRd24
import Derived.Lib.ItoaLen
namespace Go.Proofs.YtcmojpfolmcaoaaDoor
set_option linter.unusedVariables false
set_option linter.unusedSimpArgs false
open Go.RowKit

theorem Split32 (t : List UInt8) (ht : t.length ≤ 1000000) (w : World) (hm : MaxOk w) :
    Calls Tryd.prog 51 #[.string (str t), .string ⟨#[32]⟩] w fun e w' =>
      e = .returned (.slice (some ⟨w.heap.size, 0, none⟩) (pcd 32 t).length (pcd 32 t).length) ∧ w' = w.alloc (.cells (((pcd 32 t).map str).map Value.string).toArray 9) := by
  obtain ⟨_, m, hm⟩ := hm
  have h1 := Tryd.strings_Split (str t) ⟨#[32]⟩ m w (by rw [size_str]; omega) hm (by decide)
  rw [splitB_pcd (d := 32), ← count_pcd (d := 32), str_data] at h1
  exact h1
theorem words_new (w : World) (ws : List (List UInt8)) : WordsAt (w.alloc (.cells ((ws.map str).map Value.string).toArray 9)) w.heap.size ws := by
  intro j x hx
  rw [cell_of_row _ w.heap.size j _ 9 (0, 0) (heap_alloc_new w _)]
  simp [hx]
theorem Itoa_at (n : Nat) (h : n ≤ 1000000) (w : World) (hT : Tb w) :
    Calls Tryd.prog 28 #[.int .i64 n] w fun e w' => e = .returned (.string (str (Lib.itoa n))) ∧ Below w.heap.size w w' :=
  (Tryd.strconv_Itoa n (by omega) (by omega) w hT.2).mono fun e w' ⟨he, k, os, hw⟩ => ⟨he, by
    subst hw
    exact (below_drewN (Below.refl _ w) k).trans ⟨rfl, rfl, rfl, by simp [Sort.grow], fun i hi => by simp [Sort.grow, Array.getElem?_append, hi]⟩⟩
theorem itoa_len' (n : Nat) (h : n ≤ 1000000) : (Lib.itoa (n : Int)).length ≤ 21 := Lib.itoa_length_le _ (by omega) (by omega)
set_option maxRecDepth 100000 in
set_option maxHeartbeats 4000000 in
theorem take_at (X : Nat) (st : St) (pv : Value) (n : Nat) (hn : n ≤ 100000000) (t : List UInt8) (ht : t.length ≤ 1000000) (hok : okS st) (w : World) (hT : Tb w) (hr : RS w X st pv) :
    Calls Tryd.prog 35 #[.pointer (some ⟨X, 0, none⟩), .int .i64 n, .string (str t)] w (RdP X w (takeM n t st)) := by
  obtain ⟨va, vc, rfl⟩ := hr.slice
  have HR := Lib.hid hr
  have hXl : X < w.heap.size := hr.lt
  have hfl := lit_eq t [112, 111, 109, 97, 99, 101, 32, 49]
  by_cases h1 : n = 1
  · have hnI : ((n : Int) == 1) = true := by simp; omega
    have HTK := Lib.hid (show takeM n t st = (if t = wFirst then some st else none) by unfold takeM; rw [if_pos h1])
    by_cases hf : t = wFirst
    · have hfq : ((str t).toList == [112, 111, 109, 97, 99, 101, 32, 49]) = true := by rw [hfl]; simpa [wFirst] using hf
      have HF := Lib.hid (show takeM n t st = some st by rw [HTK.out, if_pos hf])
      clear hfl hf h1 hr
      go_enter Tryd.func35, Tryd.ntmps35
      go_wp2
      go_ret
      exact .inl ⟨_, _, HF.out, rfl, HR.out, Below.refl _ _⟩
    · have hfq : ((str t).toList == [112, 111, 109, 97, 99, 101, 32, 49]) = false := by rw [hfl]; simpa [wFirst] using hf
      have HF := Lib.hid (show takeM n t st = none by rw [HTK.out, if_neg hf])
      clear hfl hf h1 hr
      go_enter Tryd.func35, Tryd.ntmps35
      go_wp2
      go_ret
      exact .inr ⟨HF.out, rfl, Below.refl _ _⟩
  have hnI : ((n : Int) == 1) = false := by simp; omega
  have HSP := Lib.hid (Split32 t ht w hT.1)
  have hba : Below w.heap.size w (w.alloc (.cells (((pcd 32 t).map str).map Value.string).toArray 9)) := (Below.refl _ _).alloc (Nat.le_refl _) _
  have hwn := words_new w (pcd 32 t)
  have hll : ∀ x ∈ pcd 32 t, x.length ≤ 1000000 := fun x hx => Nat.le_trans (pcd_len_le t x hx) ht
  have hne := pcd_ne (d := 32) t
  have HTK := Lib.hid (show takeM n t st = (if st.ended = true then none else if n = 2 then rootM (pcd 32 t) st else if (pcd 32 t).head? = some wPin then pinM (pcd 32 t) st else if t = endLine st.pins.length then some ⟨st.rg, st.ra, st.rv, st.pins, true⟩ else none) by rw [takeM, if_neg h1])
  generalize pcd 32 t = ws at HSP hba hwn hll hne HTK
  clear hfl h1 hr
  go_enter Tryd.func35, Tryd.ntmps35
  go_wp2_with fail
  refine HSP.out.mono ?_
  rintro e w1 ⟨rfl, rfl⟩
  generalize (w.alloc (.cells ((ws.map str).map Value.string).toArray 9)) = w1 at hba hwn ⊢
  have HBA := Lib.hid hba
  have HBX := Lib.hid (hba.mono (Nat.le_of_lt hXl))
  have HWN := Lib.hid hwn
  have hr1 := HR.out.below hba
  have HR1 := Lib.hid hr1
  have HT1 := Lib.hid (hT.below hba (Nat.le_refl _))
  obtain ⟨y0, y1, y2, y3, y4⟩ := hr1.cells
  have f4 := hr1.frozen 4
  have hX1 : X < w1.heap.size := hr1.lt
  clear hba hr1 hwn HSP
  cases hen : st.ended
  case true =>
    have HF := Lib.hid (show takeM n t st = none by rw [HTK.out, if_pos hen])
    rw [hen] at y4
    clear hen
    go_wp2
    go_ret
    exact .inr ⟨HF.out, rfl, HBX.out⟩
  have HTK2 := Lib.hid (show takeM n t st = (if n = 2 then rootM ws st else if ws.head? = some wPin then pinM ws st else if t = endLine st.pins.length then some ⟨st.rg, st.ra, st.rv, st.pins, true⟩ else none) by rw [HTK.out, if_neg (by rw [hen]; simp)])
  rw [hen] at y4
  clear hen HTK
  by_cases h2 : n = 2
  · have hn2 : ((n : Int) == 2) = true := by simp; omega
    have hc := root_at X st (.slice va st.pins.length vc) w.heap.size ws.length ws rfl hll w1 HT1.out.1 HR1.out HWN.out hXl
    have HC := Lib.hid hc
    have HF := Lib.hid (show takeM n t st = rootM ws st by rw [HTK2.out, if_pos h2])
    clear h2 hc
    go_wp2_with fail
    refine HC.out.mono ?_
    rintro e w2 (⟨st', pv', h, rfl, hr2, hb2⟩ | ⟨h, rfl, hb2⟩)
    · have H := Lib.hid h
      have HR2 := Lib.hid hr2
      have HB2 := Lib.hid hb2
      clear h hr2 hb2 y0 y1 y2 y3 y4 f4
      go_wp2
      go_ret
      exact .inl ⟨_, _, by rw [HF.out]; exact H.out, rfl, HR2.out, HBX.out.trans HB2.out⟩
    · have H := Lib.hid h
      have HB2 := Lib.hid hb2
      clear h hb2 y0 y1 y2 y3 y4 f4
      go_wp2
      go_ret
      exact .inr ⟨by rw [HF.out]; exact H.out, rfl, HBX.out.trans HB2.out⟩
  have hn2 : ((n : Int) == 2) = false := by simp; omega
  obtain ⟨x, r, rfl⟩ : ∃ x r, ws = x :: r := by
    cases ws with
    | nil => exact absurd rfl hne
    | cons x r => exact ⟨x, r, rfl⟩
  have c0 := HWN.out 0 x rfl
  have hxl := lit_eq x [112, 105, 110]
  have hlen : (0 : Int) < (x :: r).length := by rw [List.length_cons]; omega
  have HTK3 := Lib.hid (show takeM n t st = (if x = wPin then pinM (x :: r) st else if t = endLine st.pins.length then some ⟨st.rg, st.ra, st.rv, st.pins, true⟩ else none) by rw [HTK2.out, if_neg h2]; simp)
  clear HTK2 h2 hne
  by_cases hp : x = wPin
  · have hxq : ((str x).toList == [112, 105, 110]) = true := by rw [hxl]; simpa [wPin] using hp
    have hc := pin_at X st (.slice va st.pins.length vc) w.heap.size (x :: r).length (x :: r) rfl hll hok w1 HT1.out.1 HR1.out HWN.out (World.block_lt_of_cell? w1 _ c0)
    have HF := Lib.hid (show takeM n t st = pinM (x :: r) st by rw [HTK3.out, if_pos hp])
    generalize (x :: r).length = m at hc hlen
    have HC := Lib.hid hc
    clear hp hc hxl
    go_wp2_with fail
    refine HC.out.mono ?_
    rintro e w2 (⟨st', pv', h, rfl, hr2, hb2⟩ | ⟨h, rfl, hb2⟩)
    · have H := Lib.hid h
      have HR2 := Lib.hid hr2
      have HB2 := Lib.hid hb2
      clear h hr2 hb2 y0 y1 y2 y3 y4 f4 c0
      go_wp2
      go_ret
      exact .inl ⟨_, _, by rw [HF.out]; exact H.out, rfl, HR2.out, HBX.out.trans HB2.out⟩
    · have H := Lib.hid h
      have HB2 := Lib.hid hb2
      clear h hb2 y0 y1 y2 y3 y4 f4 c0
      go_wp2
      go_ret
      exact .inr ⟨by rw [HF.out]; exact H.out, rfl, HBX.out.trans HB2.out⟩
  · have hxq : ((str x).toList == [112, 105, 110]) = false := by rw [hxl]; simpa [wPin] using hp
    have HF0 := Lib.hid (show takeM n t st = (if t = endLine st.pins.length then some ⟨st.rg, st.ra, st.rv, st.pins, true⟩ else none) by rw [HTK3.out, if_neg hp])
    have hit := Itoa_at st.pins.length (by have := hok.2; omega) w1 HT1.out
    have hil := itoa_len' st.pins.length (by have := hok.2; omega)
    have hend : (⟨#[101, 110, 100, 32]⟩ : ByteArray) ++ str (Lib.itoa (st.pins.length : Int)) = str (endLine st.pins.length) := by
      unfold endLine wEndS
      exact app_str [101, 110, 100, 32] _
    have heq : ((str t).toList == ((⟨#[101, 110, 100, 32]⟩ : ByteArray) ++ str (Lib.itoa (st.pins.length : Int))).toList) = decide (t = endLine st.pins.length) := by
      rw [hend, str_list, str_list, Bool.eq_iff_iff]; simp
    have hsz : (str (Lib.itoa (st.pins.length : Int))).size ≤ 21 := by rw [size_str]; exact hil
    generalize str (Lib.itoa (st.pins.length : Int)) = s2 at hit heq hsz
    have hszI : (s2.size : Int) ≤ 21 := by omega
    have HIT := Lib.hid hit
    clear hp hxl hit hil hend
    by_cases hte : t = endLine st.pins.length
    · rw [decide_eq_true hte] at heq
      have HF := Lib.hid (show takeM n t st = some ⟨st.rg, st.ra, st.rv, st.pins, true⟩ by rw [HF0.out, if_pos hte])
      clear hte HF0
      go_wp2_with fail
      refine HIT.out.mono ?_
      rintro e w2 ⟨rfl, hb2⟩
      have hr2 := HR1.out.below hb2
      have HR2 := Lib.hid hr2
      have HB2 := Lib.hid (hb2.mono (Nat.le_of_lt hX1))
      clear hb2 y0 y1 y2 y3 y4 f4 c0
      obtain ⟨y0, y1, y2, y3, y4⟩ := hr2.cells
      have f4 := hr2.frozen 4
      have hX2 : X < w2.heap.size := hr2.lt
      clear hr2
      go_wp2
      go_ret
      exact .inl ⟨_, _, HF.out, rfl, HR2.out.end true, (HBX.out.trans HB2.out).setCell (Nat.le_refl _) _⟩
    · rw [decide_eq_false hte] at heq
      have HF := Lib.hid (show takeM n t st = none by rw [HF0.out, if_neg hte])
      clear hte HF0
      go_wp2_with fail
      refine HIT.out.mono ?_
      rintro e w2 ⟨rfl, hb2⟩
      have hr2 := HR1.out.below hb2
      have HB2 := Lib.hid (hb2.mono (Nat.le_of_lt hX1))
      clear hb2 y0 y1 y2 y3 y4 f4 c0
      obtain ⟨y0, y1, y2, y3, y4⟩ := hr2.cells
      have f4 := hr2.frozen 4
      have hX2 : X < w2.heap.size := hr2.lt
      clear hr2
      go_wp2
      go_ret
      exact .inr ⟨HF.out, rfl, (HBX.out.trans HB2.out).setCell (Nat.le_refl _) _⟩
end Go.Proofs.YtcmojpfolmcaoaaDoor
