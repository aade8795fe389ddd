/-
  Layer 24: the contracts of lock.line and lock.Print. Own work.
-/
import Derived.Test.YtcmojpfolmcaoaaDoorMayL24
import Derived.Test.YtcmojpfolmcaoaaDoorBuilder
import Derived.RegionTactic
import Derived.Lib.ItoaLen
namespace Go.Proofs.YtcmojpfolmcaoaaDoor
set_option linter.unusedVariables false
set_option linter.unusedSimpArgs false
open Go.RowKit

def joinW (xs : List ByteArray) : List UInt8 := Lib.join (xs.map (·.data.toList)) [32] ++ [10]
set_option maxHeartbeats 1000000 in
theorem line_any (bk : Nat) (xs : List ByteArray) (w : World) (hcells : ∀ (j : Nat) x, xs[j]? = some x → w.cell? ⟨bk, j, none⟩ = some (.string x)) (hbk : bk < w.heap.size) (hN : xs.length ≤ 1000) (hlen : (Lib.join (xs.map (·.data.toList)) [32]).length ≤ 1000000) (n : Nat) (hn : n = xs.length) :
    Calls Tryd.prog 24 #[.slice (some ⟨bk, 0, none⟩) n n] w fun e w' => e = .returned (.string (str (joinW xs))) ∧ Below w.heap.size w w' := by
  subst hn
  have hj := Tryd.strings_Join bk 0 xs.length xs ⟨#[32]⟩ w (by simpa using hcells) hbk (by omega) (Nat.le_refl _) (by show (Lib.join _ [32]).length ≤ _; omega)
  have e1 : (⟨#[32]⟩ : ByteArray).data.toList = [32] := rfl
  rw [e1] at hj
  have hl : (⟨(Lib.join (xs.map (·.data.toList)) [32]).toArray⟩ : ByteArray).size ≤ 1000000 := hlen
  have he : (⟨(Lib.join (xs.map (·.data.toList)) [32]).toArray⟩ : ByteArray) ++ ⟨#[10]⟩ = str (joinW xs) := by
    unfold joinW
    exact app_str _ [10]
  generalize (⟨(Lib.join (xs.map (·.data.toList)) [32]).toArray⟩ : ByteArray) = s at hj hl he
  have hlI : (s.size : Int) ≤ 1000000 := by omega
  have HJ := Lib.hid hj
  have HE := Lib.hid he
  clear hj he
  go_enter Tryd.func24, Tryd.ntmps24
  go_wp2_with fail
  refine HJ.out.mono ?_
  rintro e w2 ⟨rfl, hb2⟩
  have HB := Lib.hid hb2
  clear hb2
  go_wp2
  go_ret
  exact ⟨ret_str HE.out, HB.out⟩
theorem joinW1 (a : ByteArray) : joinW [a] = a.data.toList ++ [10] := by simp [joinW, Lib.join, List.intercalate]
theorem joinW2 (a b : ByteArray) : joinW [a, b] = a.data.toList ++ 32 :: b.data.toList ++ [10] := by simp [joinW, Lib.join, List.intercalate]
theorem joinW4 (a b c d : ByteArray) : joinW [a, b, c, d] = a.data.toList ++ 32 :: (b.data.toList ++ 32 :: (c.data.toList ++ 32 :: d.data.toList)) ++ [10] := by simp [joinW, Lib.join, List.intercalate]
theorem line1 (bk : Nat) (a : ByteArray) (w : World) (h0 : w.cell? ⟨bk, 0, none⟩ = some (.string a)) (ha : a.size ≤ 200000) :
    Calls Tryd.prog 24 #[.slice (some ⟨bk, 0, none⟩) 1 1] w fun e w' => e = .returned (.string (str (a.data.toList ++ [10]))) ∧ Below w.heap.size w w' := by
  have ha' : a.data.toList.length = a.size := by simp
  have := line_any bk [a] w (fun j x hx => by
    match j with
    | 0 => simp at hx; subst hx; exact h0
    | j + 1 => simp at hx) (World.block_lt_of_cell? w _ h0) (by simp) (by simp [Lib.join, List.intercalate]; omega) 1 rfl
  rw [joinW1] at this
  exact this
theorem line2 (bk : Nat) (a b : ByteArray) (w : World) (h0 : w.cell? ⟨bk, 0, none⟩ = some (.string a)) (h1 : w.cell? ⟨bk, 1, none⟩ = some (.string b)) (ha : a.size ≤ 200000) (hb : b.size ≤ 200000) :
    Calls Tryd.prog 24 #[.slice (some ⟨bk, 0, none⟩) 2 2] w fun e w' => e = .returned (.string (str (a.data.toList ++ 32 :: b.data.toList ++ [10]))) ∧ Below w.heap.size w w' := by
  have ha' : a.data.toList.length = a.size := by simp
  have hb' : b.data.toList.length = b.size := by simp
  have := line_any bk [a, b] w (fun j x hx => by
    match j with
    | 0 => simp at hx; subst hx; exact h0
    | 1 => simp at hx; subst hx; exact h1
    | j + 2 => simp at hx) (World.block_lt_of_cell? w _ h0) (by simp) (by simp [Lib.join, List.intercalate]; omega) 2 rfl
  rw [joinW2] at this
  exact this
theorem line4 (bk : Nat) (a b c d : ByteArray) (w : World) (h0 : w.cell? ⟨bk, 0, none⟩ = some (.string a)) (h1 : w.cell? ⟨bk, 1, none⟩ = some (.string b)) (h2 : w.cell? ⟨bk, 2, none⟩ = some (.string c)) (h3 : w.cell? ⟨bk, 3, none⟩ = some (.string d)) (ha : a.size ≤ 200000) (hb : b.size ≤ 200000) (hc : c.size ≤ 200000) (hd : d.size ≤ 200000) :
    Calls Tryd.prog 24 #[.slice (some ⟨bk, 0, none⟩) 4 4] w fun e w' => e = .returned (.string (str (a.data.toList ++ 32 :: (b.data.toList ++ 32 :: (c.data.toList ++ 32 :: d.data.toList)) ++ [10]))) ∧ Below w.heap.size w w' := by
  have ha' : a.data.toList.length = a.size := by simp
  have hb' : b.data.toList.length = b.size := by simp
  have hc' : c.data.toList.length = c.size := by simp
  have hd' : d.data.toList.length = d.size := by simp
  have := line_any bk [a, b, c, d] w (fun j x hx => by
    match j with
    | 0 => simp at hx; subst hx; exact h0
    | 1 => simp at hx; subst hx; exact h1
    | 2 => simp at hx; subst hx; exact h2
    | 3 => simp at hx; subst hx; exact h3
    | j + 4 => simp at hx) (World.block_lt_of_cell? w _ h0) (by simp) (by simp [Lib.join, List.intercalate]; omega) 4 rfl
  rw [joinW4] at this
  exact this
theorem PrintGav_any (g a v : ByteArray) (hg : g.size ≤ 1000000) (ha : a.size ≤ 1000000) (hv : v.size ≤ 1000000) (w : World) :
    Calls Tryd.prog 25 #[gavV g a v] w fun e w' => e = .returned (.string (printGav g a v)) ∧ Below w.heap.size w w' := by
  unfold printGav gavV
  go_enter Tryd.func25, Tryd.ntmps25
  go_wp2
  go_ret
  exact ⟨rfl, by repeat (first | exact Below.refl _ _ | refine below_al' _ ?_ (Nat.le_refl _))⟩
theorem own_below {w w' : World} {base e n s : Nat} {v : Value} {xs : List Value} (h : w.ownsRow base e s v n xs) (hb : Below w.heap.size w w') : w'.ownsRow base e s v n xs := h.kept (below_grown hb none) (by cases v.ownBlock <;> simp)
theorem bld_below {B b : Nat} {l : List UInt8} {w w' : World} (h : Bld B b l w) (hb : Below w.heap.size w w') : Bld B b l w' := by
  have key : ∀ p, Lib.BuilderAt 51 5 B b p (Lib.byteCells l) w → Lib.BuilderAt 51 5 B b p (Lib.byteCells l) w' := by
    rintro p ⟨h1, v, h2, h3, h4⟩
    exact ⟨h1, v, (hb.block _ (Array.getElem?_eq_some_iff.1 h2).1).trans h2, own_below h3 hb, h4⟩
  rcases h with h | h
  · exact .inl (key _ h)
  · exact .inr (key _ h)
def okQ (p : Pn) : Prop := p.g.size ≤ 10000 ∧ p.a.size ≤ 10000 ∧ p.t.size ≤ 10000 ∧ p.c.size ≤ 10000 ∧ p.v.size ≤ 10000
theorem wordS_size (a : Int) : (wordS a).size ≤ 8 := by
  unfold wordS
  repeat' split
  all_goals decide
theorem printKey_size (g a t c : ByteArray) : (printKey g a t c).size ≤ g.size + a.size + t.size + c.size + 3 := by
  unfold printKey
  have e : (⟨#[58]⟩ : ByteArray).size = 1 := rfl
  split
  all_goals
    simp only [ByteArray.size_append, e]
    omega
theorem data_len (s : ByteArray) : s.data.toList.length = s.size := by simp
theorem pinLine_len (p : Pn) (h : okQ p) : (pinLine p ++ [10]).length ≤ 50020 := by
  obtain ⟨h0, h1, h2, h3, h4⟩ := h
  have := printKey_size p.g p.a p.t p.c
  have := wordS_size p.sc
  unfold pinLine wPin
  simp only [List.length_append, List.length_cons, List.length_nil, data_len]
  omega
theorem pinLines_len : ∀ (l : List Pn), (∀ p ∈ l, okQ p) → (pinLines l).length ≤ l.length * 50020
  | [], _ => by simp [pinLines]
  | p :: l, h => by
    have h1 := pinLines_len l (fun q hq => h q (by simp [hq]))
    have h2 := pinLine_len p (h p (by simp))
    simp only [pinLines, List.flatMap_cons, List.length_append, List.length_cons] at h1 h2 ⊢
    omega
theorem itoa_len (n : Nat) (h : n ≤ 1000000) : (Lib.itoa (n : Int)).length ≤ 21 := Lib.itoa_length_le _ (by omega) (by omega)
theorem Itoa_any (n : Nat) (h : n ≤ 1000000) (w : World) (hT : Tb w) :
    Calls Tryd.prog 28 #[.int .i64 n] w fun e w' => e = .returned (.string (str (Lib.itoa n))) ∧ Below w.heap.size w w' :=
  (Tryd.strconv_Itoa n (by omega) (by omega) w hT.2).mono fun e w' ⟨he, k, os, hw⟩ => ⟨he, by
    subst hw
    exact (below_drewN (Below.refl _ w) k).trans ⟨rfl, rfl, rfl, by simp [Sort.grow], fun i hi => by simp [Sort.grow, Array.getElem?_append, hi]⟩⟩
theorem Bld.new (w : World) : Bld w.heap.size w.heap.size [] (w.alloc (.cells #[.pointer none, .slice none 0 0] 51)) :=
  Lib.fresh_isBuilder _ _ w
theorem LkIn.low {w w' : World} {b B : Nat} {g a v : ByteArray} {pv : Value} (h : LkIn w b g a v pv) (hb : Below B w w') (hB : b < B) : LkIn w' b g a v pv := by
  obtain ⟨h0, h1, h2, h3⟩ := h
  exact ⟨(hb.cell (p := ⟨b, 0, none⟩) hB).trans h0, (hb.cell (p := ⟨b, 1, none⟩) hB).trans h1, (hb.cell (p := ⟨b, 2, none⟩) hB).trans h2, (hb.cell (p := ⟨b, 3, none⟩) hB).trans h3⟩
def headL (g a v : ByteArray) : List UInt8 := wFirst ++ [10] ++ (rootLine g a v ++ [10])
theorem printL_eq (g a v : ByteArray) (l : List Pn) : printL g a v l = headL g a v ++ pinLines l ++ (endLine l.length ++ [10]) := by
  unfold printL headL
  simp
theorem printGav_size (g a v : ByteArray) : (printGav g a v).size = g.size + a.size + v.size + 2 := by
  unfold printGav
  have e : (⟨#[58]⟩ : ByteArray).size = 1 := rfl
  simp only [ByteArray.size_append, e]
  omega
theorem headL_len (g a v : ByteArray) (hg : g.size ≤ 10000) (ha : a.size ≤ 10000) (hv : v.size ≤ 10000) : (headL g a v).length ≤ 30100 := by
  unfold headL rootLine wFirst wRoot
  simp only [List.length_append, List.length_cons, List.length_nil, data_len, printGav_size]
  omega
set_option maxRecDepth 100000 in
set_option maxHeartbeats 4000000 in
theorem Print_any (g a v : ByteArray) (hg : g.size ≤ 10000) (ha : a.size ≤ 10000) (hv : v.size ≤ 10000) (pv : Value) (l : List Pn) (hok : ∀ p ∈ l, okQ p) (hl : l.length ≤ 10000) (w : World) (hr : RdN w pv l) (hT : Tb w) :
    Calls Tryd.prog 11 #[lockV g a v pv] w fun e w' => e = .returned (.string (str (printL g a v l))) ∧ Below w.heap.size w w' := by
  obtain ⟨pa, pc, rfl⟩ := hr.shape
  have hlI : (l.length : Int) ≤ 10000 := by omega
  have hpl := printL_eq g a v l
  generalize printL g a v l = out at hpl ⊢
  have HPL := Lib.hid hpl
  clear hpl
  have HHL := Lib.hid (headL_len g a v hg ha hv)
  have HPG := Lib.hid (fun w => PrintGav_any g a v (by omega) (by omega) (by omega) w)
  have HGS := Lib.hid (printGav_size g a v)
  have HR := Lib.hid hr
  have HOK := Lib.hid hok
  have HT := Lib.hid hT
  have HG := Lib.hid hg
  have HA := Lib.hid ha
  have HV := Lib.hid hv
  have hb0 : Below w.heap.size w (w.alloc (.cells #[.string g, .string a, .string v, .slice pa l.length pc] 26)) := (Below.refl w.heap.size w).alloc (Nat.le_refl _) _
  have hnew := LkIn.new w g a v (.slice pa l.length pc)
  have hz0 : (w.alloc (.cells #[.string g, .string a, .string v, .slice pa l.length pc] 26)).heap.size = w.heap.size + 1 := by simp
  clear hr hok hT hg ha hv
  unfold lockV
  go_enter Tryd.func11, Tryd.ntmps11
  go_upto_region 1 with fail
  generalize w.alloc (.cells #[.string g, .string a, .string v, .slice pa l.length pc] 26) = w0 at hb0 hnew hz0 ⊢
  have HB0 := Lib.hid hb0
  have HNEW := Lib.hid hnew
  have HZ0 := Lib.hid hz0
  clear hb0 hnew hz0
  go_upto_region 2 with fail
  have hbld := Bld.new w0
  have hba : Below w0.heap.size w0 (w0.alloc (.cells #[.pointer none, .slice none 0 0] 51)) := (Below.refl _ _).alloc (Nat.le_refl _) _
  have hlk := HNEW.out.below hba (Nat.le_refl _)
  have hT1 := (HT.out.below HB0.out (Nat.le_refl _)).below hba (Nat.le_refl _)
  generalize w0.alloc (.cells #[.pointer none, .slice none 0 0] 51) = w1 at hbld hlk hba hT1 ⊢
  generalize hB : w0.heap.size = B at hbld hlk hba ⊢
  have HBLD := Lib.hid hbld
  have HLK := Lib.hid hlk
  have HBA := Lib.hid hba
  have HT1 := Lib.hid hT1
  have HBE := Lib.hid hB
  have HZ1 := Lib.hid (show B ≤ w1.heap.size by have := hba.size; omega)
  clear hbld hlk hba hT1 hB HNEW
  go_wp2_with fail
  refine (line1 _ ⟨#[112, 111, 109, 97, 99, 101, 32, 49]⟩ _ (by simp [go_sem]) (by decide)).mono ?_
  rintro e w2 ⟨rfl, hb2⟩
  have hb12 : Below w1.heap.size w1 w2 := ((Below.refl _ _).alloc (Nat.le_refl _) _).trans (hb2.mono (by simp))
  have HB12 := Lib.hid hb12
  clear hb2 hb12
  go_wp2_with fail
  refine (bu_writeString B B [] _ w2 (bld_below HBLD.out HB12.out) (by rw [size_str]; decide) (Nat.le_trans HZ1.out HB12.out.size)).mono ?_
  rintro e w3 ⟨rfl, hbu3, hb3⟩
  rw [toList_str, List.nil_append] at hbu3
  have HB13 := Lib.hid ((HB12.out.mono HZ1.out).trans hb3)
  have HBU3 := Lib.hid hbu3
  have HWB := Lib.hid (show w.heap.size < B by have := HZ0.out; have := HBE.out; omega)
  obtain ⟨y0, y1, y2, y3⟩ := HLK.out.low HB13.out HWB.out
  clear hbu3 hb3 HB12 HBLD
  unfold gavV at HPG
  go_wp2_with fail
  refine (HPG.out _).mono ?_
  rintro e w4 ⟨rfl, hb4⟩
  generalize hpg : printGav g a v = pg
  have HPGE := Lib.hid hpg
  have hpgs : pg.size ≤ 200000 := by rw [← hpg, HGS.out]; have := HG.out; have := HA.out; have := HV.out; omega
  clear hpg y0 y1 y2 y3
  have HB34 := Lib.hid hb4
  clear hb4
  go_wp2_with fail
  refine (line2 _ ⟨#[114, 111, 111, 116]⟩ pg _ (by simp [go_sem]) (by simp [go_sem]) (by decide) hpgs).mono ?_
  rintro e w5 ⟨rfl, hb5⟩
  have HB45 := Lib.hid (((Below.refl w4.heap.size w4).alloc (Nat.le_refl _) _).trans (hb5.mono (by simp)))
  clear hb5
  go_wp2_with fail
  refine (bu_writeString B B _ _ w5 (bld_below (bld_below HBU3.out HB34.out) HB45.out) (by rw [size_str]; simp; omega) (Nat.le_trans (Nat.le_trans (Nat.le_trans HZ1.out HB13.out.size) HB34.out.size) HB45.out.size)).mono ?_
  rintro e w6 ⟨rfl, hbu6, hb6⟩
  have HB16 := Lib.hid (((HB13.out.trans (HB34.out.mono (Nat.le_trans HZ1.out HB13.out.size))).trans (HB45.out.mono (Nat.le_trans (Nat.le_trans HZ1.out HB13.out.size) HB34.out.size))).trans hb6)
  have hbu6' : Bld B B (headL g a v) w6 := by
    rw [toList_str] at hbu6
    unfold headL rootLine
    rw [HPGE.out]
    simpa [wFirst, wRoot] using hbu6
  have HBU6 := Lib.hid hbu6'
  clear hbu6 hbu6' hb6 HB13 HB34 HB45 HBU3
  obtain ⟨y0, y1, y2, y3⟩ := HLK.out.low HB16.out HWB.out
  go_wp2_with fail
  clear y0 y1 y2 y3
  go_loopw [18] (fun i wr => ∃ k : Nat, k ≤ l.length ∧ i = .int .i64 k ∧ Bld B B (headL g a v ++ pinLines (l.take k)) wr ∧ Below B w1 wr) (fun i _ => l.length - (intOf i).toNat)
  case atStart => exact ⟨0, by omega, rfl, by simpa [pinLines] using HBU6.out, HB16.out⟩
  case round =>
    obtain ⟨k, hk, rfl, hbu, hb⟩ := hrel
    have HBU := Lib.hid hbu
    have HB := Lib.hid hb
    have hB0 : Below w.heap.size w wr := (HB0.out.trans (HBA.out.mono (Nat.le_of_lt HWB.out))).trans (hb.mono (Nat.le_of_lt HWB.out))
    have HB0R := Lib.hid hB0
    have hacc : (headL g a v ++ pinLines (l.take k)).length ≤ 30100 + 10000 * 50020 := by
      have h1 := pinLines_len (l.take k) (fun p hp => HOK.out p (List.mem_of_mem_take hp))
      have h2 : (l.take k).length ≤ 10000 := by rw [List.length_take]; omega
      have h3 := HHL.out
      rw [List.length_append]
      omega
    have HACC := Lib.hid hacc
    have hBw : B ≤ wr.heap.size := Nat.le_trans HZ1.out hb.size
    have HBW := Lib.hid hBw
    clear hbu hacc hBw
    by_cases hlt : k < l.length
    · obtain ⟨p, hp⟩ : ∃ p, l[k]? = some p := ⟨_, List.getElem?_eq_getElem hlt⟩
      obtain ⟨b, rfl, _, _, _, hc⟩ := HR.out.elem hp
      obtain ⟨k0, k1, k2, k3, k4, k5⟩ := RdN.at hc hp hB0 (Nat.le_refl _)
      have hq := HOK.out p (List.mem_of_getElem? hp)
      have hltI : (k : Int) < l.length := by omega
      have hpk := fun w => PrintKey_any p.g p.a p.t p.c (by have := hq.1; omega) (by have := hq.2.1; omega) (by have := hq.2.2.1; omega) (by have := hq.2.2.2.1; omega) w
      have hpks : (printKey p.g p.a p.t p.c).size ≤ 200000 := by have := printKey_size p.g p.a p.t p.c; have := hq.1; have := hq.2.1; have := hq.2.2.1; have := hq.2.2.2.1; omega
      have hwd := fun w => Word_any p.sc w
      have hwds : (wordS p.sc).size ≤ 200000 := by have := wordS_size p.sc; omega
      have hvs : p.v.size ≤ 200000 := by have := hq.2.2.2.2; omega
      have hpl : pinLine p ++ [10] = 112 :: 105 :: 110 :: 32 :: ((printKey p.g p.a p.t p.c).data.toList ++ 32 :: (p.v.data.toList ++ 32 :: ((wordS p.sc).data.toList ++ [10]))) := by simp [pinLine, wPin]
      have hpll := pinLine_len p hq
      unfold keyV at hpk
      generalize printKey p.g p.a p.t p.c = ks at hpk hpks hpl
      generalize wordS p.sc = ws at hwd hwds hpl
      have HPK := Lib.hid hpk
      have HWD := Lib.hid hwd
      have HPLN := Lib.hid hpl
      have HPLL := Lib.hid hpll
      have HP := Lib.hid hp
      have hbu1 := bld_below HBU.out ((Below.refl wr.heap.size wr).alloc (Nat.le_refl _) (.cells #[.string p.g, .string p.a, .string p.t, .string p.c, .string p.v, .int .i64 p.sc] 42))
      have hb1 := HB.out.alloc HBW.out (.cells #[.string p.g, .string p.a, .string p.t, .string p.c, .string p.v, .int .i64 p.sc] 42)
      have hin := PinIn.new wr p
      clear hpk hwd hpl hpll hp hq hc hb hB0
      go_upto_region 7 with fail
      generalize wr.alloc (.cells #[.string p.g, .string p.a, .string p.t, .string p.c, .string p.v, .int .i64 p.sc] 42) = wa at hbu1 hb1 hin ⊢
      generalize wr.heap.size = b5 at hin ⊢
      obtain ⟨y0, y1, y2, y3, y4, y5⟩ := hin
      have HBU1 := Lib.hid hbu1
      have HB1 := Lib.hid hb1
      clear hbu1 hb1 k0 k1 k2 k3 k4 k5
      go_region_with (first
          | (go_at_call 26; (with_reducible refine (HPK.out _).mono ?_); rintro e w3 ⟨rfl, hb3⟩; have z4 : w3.cell? ⟨b5, 4, none⟩ = some (.string p.v) := (hb3.cell (p := ⟨b5, 4, none⟩) (World.block_lt_of_cell? wa _ y4)).trans y4; have z5 : w3.cell? ⟨b5, 5, none⟩ = some (.int .i64 p.sc) := (hb3.cell (p := ⟨b5, 5, none⟩) (World.block_lt_of_cell? wa _ y5)).trans y5)
          | (go_at_call 27; with_reducible refine (HWD.out _).mono ?_; rintro e w3 ⟨rfl, rfl⟩)
          | (go_at_call 24; refine (line4 _ ⟨#[112, 105, 110]⟩ ks p.v ws _ (by simp [go_sem]) (by simp [go_sem]) (by simp [go_sem]) (by simp [go_sem]) (by decide) hpks hvs hwds).mono ?_; rintro e w5 ⟨rfl, hb5⟩; have hB35 := ((Below.refl w3.heap.size w3).alloc (Nat.le_refl _) _).trans (hb5.mono (by simp)); have hBa3 : Below wa.heap.size wa w3 := (Below.refl _ wa).drew.trans hb3; have hBa5 := hBa3.trans (hB35.mono hBa3.size); clear hB35 hBa3 hb5 hb3)
          | (go_at_call 23; refine (bu_writeString B B _ _ w5 (bld_below HBU1.out hBa5) (by rw [size_str, ← HPLN.out]; have := HACC.out; have := HPLL.out; omega) (Nat.le_trans (Nat.le_trans HZ1.out HB1.out.size) hBa5.size)).mono ?_; rintro e w6 ⟨rfl, hbu6, hb6⟩))
      all_goals
        rw [toList_str, ← HPLN.out, List.append_assoc, ← pinLines_snoc, ← take_snoc _ k p HP.out] at hbu6
        have HBU6 := Lib.hid hbu6
        have HB6 := Lib.hid ((HB1.out.trans (hBa5.mono (Nat.le_trans HZ1.out HB1.out.size))).trans hb6)
        clear hbu6 hb6 hBa5
        go_wp2
        go_roundw
        case rel => exact ⟨k + 1, by omega, by go_num, HBU6.out, HB6.out⟩
        case measure => simp [intOf]; omega
    · have hkl : k = l.length := by omega
      have hlt' : (l.length : Int) ≤ k := by omega
      have hbu := HBU.out
      rw [hkl, List.take_of_length_le (Nat.le_refl _)] at hbu
      have HBUF := Lib.hid hbu
      have hacc2 := HACC.out
      rw [hkl, List.take_of_length_le (Nat.le_refl _), List.length_append] at hacc2
      have HACC2 := Lib.hid hacc2
      have HTR := Lib.hid (HT.out.below hB0 (Nat.le_refl _))
      clear hbu hkl hb hB0 hacc2
      obtain ⟨y0, y1, y2, y3⟩ := HLK.out.low HB.out HWB.out
      go_wp2_with fail
      refine (Itoa_any l.length (by omega) _ HTR.out).mono ?_
      rintro e w7 ⟨rfl, hb7⟩
      have HB7 := Lib.hid hb7
      have hil := itoa_len l.length (by omega)
      generalize hit : Lib.itoa (l.length : Int) = it at hil
      have HIT := Lib.hid hit
      clear hb7 y0 y1 y2 y3 hit
      go_wp2_with fail
      refine (line2 _ ⟨#[101, 110, 100]⟩ (str it) _ (by simp [go_sem]) (by simp [go_sem]) (by decide) (by rw [size_str]; omega)).mono ?_
      rintro e w8 ⟨rfl, hb8⟩
      have HB78 := Lib.hid (((Below.refl w7.heap.size w7).alloc (Nat.le_refl _) _).trans (hb8.mono (by simp)))
      clear hb8
      go_wp2_with fail
      refine (bu_writeString B B _ _ w8 (bld_below (bld_below HBUF.out HB7.out) HB78.out) (by rw [size_str]; have := HACC2.out; simp [str_data]; omega) (Nat.le_trans (Nat.le_trans (Nat.le_trans HZ1.out HB.out.size) HB7.out.size) HB78.out.size)).mono ?_
      rintro e w9 ⟨rfl, hbu9, hb9⟩
      have HB9 := Lib.hid (((HB.out.trans (HB7.out.mono (Nat.le_trans HZ1.out HB.out.size))).trans (HB78.out.mono (Nat.le_trans (Nat.le_trans HZ1.out HB.out.size) HB7.out.size))).trans hb9)
      have hbu9' : Bld B B out w9 := by
        rw [HPL.out]
        unfold endLine wEndS
        rw [HIT.out]
        rw [toList_str] at hbu9
        simpa [str_data] using hbu9
      have HBU9 := Lib.hid hbu9'
      clear hbu9 hbu9' hb9 HB7 HB78
      go_wp2_with fail
      refine (Tryd.Builder_String_any B B _ w9 HBU9.out (Nat.le_trans HZ1.out HB9.out.size)).mono ?_
      rintro e w10 ⟨rfl, hb10⟩
      have HB10 := Lib.hid (HB9.out.trans hb10)
      clear hb10
      go_wp2
      go_ret
      exact ⟨rfl, HB0.out.trans ((HBA.out.trans HB10.out).mono (Nat.le_of_lt HWB.out))⟩
end Go.Proofs.YtcmojpfolmcaoaaDoor
