/-
  Layer 24: the card LockBack: any lock that may be, printed, is parsed as the same; no beginning of its text is one, and nothing longer. For every input. Own work.
-/
import Derived.Test.YtcmojpfolmcaoaaDoorLives24
import Derived.Test.YtcmojpfolmcaoaaDoorRefMay24
import Derived.Test.YtcmojpfolmcaoaaDoorLight24
import Derived.Test.YtcmojpfolmcaoaaDoorBack24
import Derived.Test.YtcmojpfolmcaoaaDoorDoor24
namespace Go.Proofs.YtcmojpfolmcaoaaDoor
set_option linter.unusedVariables false
set_option linter.unusedSimpArgs false
open Go.ChangeShapes Go.WideShapes Go.ChangeAt Go.RowKit
open Go.ChangeMaps (open_string shut_string)

theorem sameP_self' (p : Pn) : sameP p p = true := by simp [sameP]
theorem sameLk_self' (g a v : ByteArray) (l : List Pn) : sameLk g a v l g a v l = true := by
  unfold sameLk sameG
  rw [sameL_yes rfl (fun i hi => by rw [sameAt_is (List.getElem?_eq_getElem hi) (List.getElem?_eq_getElem hi)]; exact sameP_self' _)]
  simp
theorem light_okP' {g a v : ByteArray} {l : List Pn} (h : lightP g a v l) : ∀ p ∈ l, okP p := fun p hp => by
  have := h.2.2 p hp
  refine ⟨?_, ?_, ?_, ?_, ?_⟩ <;> unfold okT <;> omega
theorem light_okQ' {g a v : ByteArray} {l : List Pn} (h : lightP g a v l) : ∀ p ∈ l, okQ p := fun p hp => by
  have := h.2.2 p hp
  refine ⟨?_, ?_, ?_, ?_, ?_⟩ <;> omega
theorem pinLine_short (p : Pn) (h : p.g.size + p.a.size + p.t.size + p.c.size + p.v.size ≤ 1000) : (pinLine p ++ [10]).length ≤ 1020 := by
  have := printKey_size p.g p.a p.t p.c
  have := wordS_size p.sc
  unfold pinLine wPin
  simp only [List.length_append, List.length_cons, List.length_nil, data_len]
  omega
theorem pinLines_short : ∀ (l : List Pn), (∀ p ∈ l, p.g.size + p.a.size + p.t.size + p.c.size + p.v.size ≤ 1000) → (pinLines l).length ≤ l.length * 1020
  | [], _ => by simp [pinLines]
  | p :: l, h => by
    have h1 := pinLines_short l (fun q hq => h q (by simp [hq]))
    have h2 := pinLine_short p (h p (by simp))
    simp only [pinLines, List.flatMap_cons, List.length_append, List.length_cons] at h1 h2 ⊢
    omega
theorem print_short {g a v : ByteArray} {l : List Pn} (h : lightP g a v l) : (printL g a v l).length ≤ 50000 ∧ 1 ≤ (printL g a v l).length := by
  obtain ⟨h1, h2, h3⟩ := h
  have h4 := pinLines_short l h3
  have h5 := itoa_len l.length (by omega)
  unfold printL rootLine endLine wFirst wRoot wEndS
  simp only [List.length_append, List.length_cons, List.length_nil, data_len, printGav_size]
  omega
theorem Parse_bad (s : ByteArray) (hs : s.size ≤ 100000) (n : Nat) (h : parseL s.data.toList = .inl n) (w : World) (hT : Tb w) :
    Calls Tryd.prog 15 #[.string s] w fun e w' => e = .returned (.tuple #[.agg #[.string ⟨#[]⟩, .string ⟨#[]⟩, .string ⟨#[]⟩, .slice none 0 0], .int .i64 1, .int .i64 n]) ∧ Below w.heap.size w w' := by
  have := Parse_any s.data.toList (by rw [data_len]; exact hs) w hT
  rw [str_toList] at this
  refine this.mono ?_
  rintro e w' (⟨st, pv, hp, _⟩ | ⟨k, hp, rfl, hb⟩)
  · rw [h] at hp; cases hp
  · rw [h] at hp
    cases hp
    exact ⟨rfl, hb⟩
def GoodP (g a v : ByteArray) (l : List Pn) (w : World) (e : Ending) (w' : World) : Prop :=
  ∃ pa pc, e = .returned (.tuple #[.agg #[.string g, .string a, .string v, .slice pa l.length pc], .int .i64 0, .int .i64 0]) ∧ RdN w' (.slice pa l.length pc) l ∧ Below w.heap.size w w'
theorem Parse_good (s : ByteArray) (hs : s.size ≤ 100000) (g a v : ByteArray) (l : List Pn) (b : Bool) (h : parseL s.data.toList = .inr ⟨g, a, v, l, b⟩) (w : World) (hT : Tb w) :
    Calls Tryd.prog 15 #[.string s] w (GoodP g a v l w) := by
  have := Parse_any s.data.toList (by rw [data_len]; exact hs) w hT
  rw [str_toList] at this
  refine this.mono ?_
  rintro e w' (⟨st, pv, hp, rfl, hr, hb⟩ | ⟨k, hp, _⟩)
  · rw [h] at hp
    cases hp
    obtain ⟨pa, pc, rfl⟩ := hr.shape
    exact ⟨pa, pc, rfl, hr, hb⟩
  · rw [h] at hp; cases hp
set_option maxRecDepth 100000 in
set_option maxHeartbeats 4000000 in
theorem walk_LockBack (g1 a1 u1 : ByteArray) (pv1 : Value) (l1 : List Pn) (og1 : okR g1) (oa1 : okR a1) (ou1 : okR u1) (ol1 : ∀ p ∈ l1, okK p) (w : World) (rd1 : RdN w pv1 l1)
    (k : Int) (hk : 0 ≤ k ∧ k ≤ 18446744073709551615) (more : ByteArray) (hmore : more.size ≤ 9223372036854775807) (hT : Tb w) :
    Calls Tryd.prog 5 #[lockV g1 a1 u1 pv1, .int .u64 k, .string more] w fun e w' => e = .returned (.bool true) ∧ Below w.heap.size w w' := by
  obtain ⟨p1, c1, rfl⟩ := rd1.shape
  have HT := Lib.hid hT
  have HLV := Lib.hid (fun w' (hb : Below w.heap.size w w') => lives_any w' (hT.below hb (Nat.le_refl _)))
  have HL1 := Lib.hid (fun w' hr => Light_any g1 a1 u1 og1 oa1 ou1 (.slice p1 l1.length c1) l1 ol1 w' hr)
  have hk1 := LkIn.new w g1 a1 u1 (.slice p1 l1.length c1)
  have hb0 : Below w.heap.size w (w.alloc (.cells #[.string g1, .string a1, .string u1, .slice p1 l1.length c1] 26)) := (Below.refl w.heap.size w).alloc (Nat.le_refl _) _
  have hmoreI : (more.size : Int) ≤ 9223372036854775807 := by omega
  clear hT
  unfold lockV
  go_enter Tryd.func5, Tryd.ntmps5
  go_upto_region 1 with fail
  generalize w.alloc (.cells #[.string g1, .string a1, .string u1, .slice p1 l1.length c1] 26) = w1 at hk1 hb0 ⊢
  have HK1 := Lib.hid hk1
  have HB0 := Lib.hid hb0
  have HR1 := Lib.hid (rd1.below hb0 (Nat.le_refl _))
  obtain ⟨x0, x1, x2, x3⟩ := hk1
  clear hb0 rd1
  unfold lockV at HL1
  go_wp2_with fail
  refine (HL1.out _ HR1.out).mono ?_
  rintro e w2 ⟨b1, rfl, hli1, hb2⟩
  have HB12 := Lib.hid hb2
  have HLI1 := Lib.hid hli1
  clear x0 x1 x2 x3 hli1
  obtain ⟨x0, x1, x2, x3⟩ := HK1.out.below hb2 (Nat.le_refl _)
  clear hb2
  cases b1
  · have HBF := Lib.hid (HB0.out.trans (HB12.out.mono HB0.out.size))
    clear x0 x1 x2 x3
    go_wp2_with fail
    refine (HLV.out _ HBF.out).mono ?_
    rintro e w7 ⟨rfl, hb7⟩
    have HB7 := Lib.hid (HBF.out.trans (hb7.mono HBF.out.size))
    clear hb7
    go_wp2
    go_ret
    exact ⟨rfl, HB7.out⟩
  have hl1 : lightP g1 a1 u1 l1 := HLI1.out rfl
  have HRM := Lib.hid (fun w' hr => refMay_any g1 a1 u1 (by unfold okT; have := hl1.2.1; omega) (by unfold okT; have := hl1.2.1; omega) (by unfold okT; have := hl1.2.1; omega) (.slice p1 l1.length c1) l1 (light_okP' hl1) (by have := hl1.1; omega) w' hr)
  unfold lockV at HRM
  cases hml : mayLock g1 a1 u1 l1
  · rw [hml] at HRM
    clear hl1 hml
    go_wp2_with fail
    refine (HRM.out _ (HR1.out.below HB12.out (Nat.le_refl _))).mono ?_
    rintro e w3 ⟨rfl, hb3⟩
    have HBF := Lib.hid (HB0.out.trans ((HB12.out.trans (hb3.mono HB12.out.size)).mono HB0.out.size))
    clear x0 x1 x2 x3 hb3
    go_wp2_with fail
    refine (HLV.out _ HBF.out).mono ?_
    rintro e w7 ⟨rfl, hb7⟩
    have HB7 := Lib.hid (HBF.out.trans (hb7.mono HBF.out.size))
    clear hb7
    go_wp2
    go_ret
    exact ⟨rfl, HB7.out⟩
  rw [hml] at HRM
  by_cases hm3 : more.size ≤ 300
  case neg =>
    have hm3I : (300 : Int) < more.size := by omega
    clear hl1 hml
    go_wp2_with fail
    refine (HRM.out _ (HR1.out.below HB12.out (Nat.le_refl _))).mono ?_
    rintro e w3 ⟨rfl, hb3⟩
    have HBF := Lib.hid (HB0.out.trans ((HB12.out.trans (hb3.mono HB12.out.size)).mono HB0.out.size))
    clear x0 x1 x2 x3 hb3
    go_wp2_with fail
    refine (HLV.out _ HBF.out).mono ?_
    rintro e w7 ⟨rfl, hb7⟩
    have HB7 := Lib.hid (HBF.out.trans (hb7.mono HBF.out.size))
    clear hb7
    go_wp2
    go_ret
    exact ⟨rfl, HB7.out⟩
  have hm3I : (more.size : Int) ≤ 300 := by omega
  have HPR := Lib.hid (fun w' hr (hb : Below w.heap.size w w') => Print_any g1 a1 u1 (by have := hl1.2.1; omega) (by have := hl1.2.1; omega) (by have := hl1.2.1; omega) (.slice p1 l1.length c1) l1 (light_okQ' hl1) (by have := hl1.1; omega) w' hr (HT.out.below hb (Nat.le_refl _)))
  have HRS := Lib.hid (fun w' pa pc hr hs => refSame_any g1 a1 u1 g1 a1 u1 (.slice p1 l1.length c1) (.slice pa l1.length pc) l1 l1 (by have := hl1.1; omega) (by have := hl1.1; omega) w' hr hs)
  rw [sameLk_self'] at HRS
  unfold lockV at HPR HRS
  obtain ⟨hlen, hpos⟩ := print_short hl1
  have hpp := print_parse hml
  have hlo := fun (r : List UInt8) (hr : r ≠ []) => parse_longer hpp hr
  have hsh := fun (p r : List UInt8) (h : p ++ r = printL g1 a1 u1 l1) (hr : r ≠ []) => parse_shorter (p := p) (r := r) (by rw [h]; exact hpp) hr
  generalize printL g1 a1 u1 l1 = pr at HPR hlen hpos hpp hlo hsh
  have HG1 := Lib.hid (fun w' (hb : Below w.heap.size w w') => Parse_good (str pr) (by rw [size_str]; omega) g1 a1 u1 l1 true hpp w' (HT.out.below hb (Nat.le_refl _)))
  have hq : ((str pr).toList == []) = false := by
    rw [lit_eq]
    apply decide_eq_false
    intro e; rw [e] at hpos; simp at hpos
  have hsz : (str pr).size = pr.length := rfl
  have hszI0 : (1 : Int) ≤ (str pr).size := by rw [hsz]; omega
  have hszI1 : ((str pr).size : Int) ≤ 50000 := by rw [hsz]; omega
  have hm0 : 0 ≤ k % ((str pr).size : Int) := Int.emod_nonneg _ (by omega)
  have hm1 : k % ((str pr).size : Int) < (str pr).size := Int.emod_lt_of_pos _ (by omega)
  obtain ⟨n2, hn2⟩ : ∃ n2, parseL ((str pr).extract 0 (k % ((str pr).size : Int)).toNat).data.toList = .inl n2 := by
    have e : ((str pr).extract 0 (k % ((str pr).size : Int)).toNat).data.toList = pr.take (k % ((str pr).size : Int)).toNat := by
      rw [ext_str, str_data, str_data]; simp
    rw [e]
    refine hsh _ (pr.drop (k % ((str pr).size : Int)).toNat) (List.take_append_drop _ _) (fun h => ?_)
    have := congrArg List.length h
    rw [List.length_drop, List.length_nil, ← hsz] at this
    omega
  have HG2 := Lib.hid (fun w' (hb : Below w.heap.size w w') => Parse_bad ((str pr).extract 0 (k % ((str pr).size : Int)).toNat) (by rw [ByteArray.size_extract]; omega) n2 hn2 w' (HT.out.below hb (Nat.le_refl _)))
  have hadd : ((str pr) ++ more).data.toList = pr ++ more.data.toList := by simp [ByteArray.data_append, str]
  have haz : ((str pr) ++ more).size ≤ 100000 := by rw [ByteArray.size_append]; omega
  have hemp := isEmpty_beq more
  clear hlen hpos hml hl1 hsh hn2
  generalize hs1 : str pr = s1 at *
  clear hs1 hsz
  go_wp2_with fail
  refine (HRM.out _ (HR1.out.below HB12.out (Nat.le_refl _))).mono ?_
  rintro e w3 ⟨rfl, hb3⟩
  have HB13 := Lib.hid (HB12.out.trans (hb3.mono HB12.out.size))
  clear x0 x1 x2 x3 hb3
  obtain ⟨x0, x1, x2, x3⟩ := HK1.out.below HB13.out (Nat.le_refl _)
  go_wp2_with fail
  refine (HPR.out _ (HR1.out.below HB13.out (Nat.le_refl _)) (HB0.out.trans (HB13.out.mono HB0.out.size))).mono ?_
  rintro e w4 ⟨rfl, hb4⟩
  have HB14 := Lib.hid (HB13.out.trans (hb4.mono HB13.out.size))
  clear x0 x1 x2 x3 hb4
  go_wp2_with fail
  refine (HG1.out _ (HB0.out.trans (HB14.out.mono HB0.out.size))).mono ?_
  rintro e w5 ⟨pa, pc, rfl, hr5, hb5⟩
  have hba : Below w5.heap.size w5 (w5.alloc (.cells #[.string g1, .string a1, .string u1, .slice pa l1.length pc] 26)) := (Below.refl _ _).alloc (Nat.le_refl _) _
  have hlk := LkIn.new w5 g1 a1 u1 (.slice pa l1.length pc)
  have HB15 := Lib.hid ((HB14.out.trans (hb5.mono HB14.out.size)).trans (hba.mono (HB14.out.trans (hb5.mono HB14.out.size)).size))
  have HR5 := Lib.hid (hr5.below hba (Nat.le_refl _))
  clear hb5 hr5 hba
  go_upto_region 5 with fail
  generalize w5.alloc (.cells #[.string g1, .string a1, .string u1, .slice pa l1.length pc] 26) = w6 at hlk HB15 HR5 ⊢
  generalize w5.heap.size = V at hlk ⊢
  obtain ⟨x0, x1, x2, x3⟩ := HK1.out.below HB15.out (Nat.le_refl _)
  obtain ⟨y0, y1, y2, y3⟩ := hlk
  go_wp2_with fail
  refine (HRS.out _ pa pc (HR1.out.below HB15.out (Nat.le_refl _)) HR5.out).mono ?_
  rintro e w7 ⟨rfl, hb7⟩
  have HB17 := Lib.hid (HB15.out.trans (hb7.mono HB15.out.size))
  clear x0 x1 x2 x3 y0 y1 y2 y3 hb7
  go_wp2_with fail
  refine (HG2.out _ (HB0.out.trans (HB17.out.mono HB0.out.size))).mono ?_
  rintro e w8 ⟨rfl, hb8⟩
  have hba8 : Below w8.heap.size w8 (w8.alloc (.cells #[.string ⟨#[]⟩, .string ⟨#[]⟩, .string ⟨#[]⟩, .slice none 0 0] 26)) := (Below.refl _ _).alloc (Nat.le_refl _) _
  have HB18 := Lib.hid ((HB17.out.trans (hb8.mono HB17.out.size)).trans (hba8.mono (HB17.out.trans (hb8.mono HB17.out.size)).size))
  clear hb8 hba8
  go_upto_region 8 with fail
  generalize w8.alloc (.cells #[.string ⟨#[]⟩, .string ⟨#[]⟩, .string ⟨#[]⟩, .slice none 0 0] 26) = w9 at HB18 ⊢
  by_cases hmz : more.size = 0
  case pos =>
    have hml : more.data.toList = [] := List.eq_nil_of_length_eq_zero (by rw [data_len]; exact hmz)
    have hmb : (more.toList == []) = true := by rw [hemp]; exact decide_eq_true hmz
    rw [hml, List.append_nil] at hadd
    have HG3 := Lib.hid (fun w' (hb : Below w.heap.size w w') => Parse_good (s1 ++ more) haz g1 a1 u1 l1 true (by rw [hadd]; exact hpp) w' (HT.out.below hb (Nat.le_refl _)))
    clear hlo hpp hadd hml hemp
    go_wp2_with fail
    refine (HG3.out _ (HB0.out.trans (HB18.out.mono HB0.out.size))).mono ?_
    rintro e w10 ⟨pb, pd, rfl, hr10, hb10⟩
    have HB19 := Lib.hid (HB18.out.trans (hb10.mono HB18.out.size))
    clear hr10 hb10
    go_wp2_with fail
    have HB20 := Lib.hid (HB19.out.trans (((Below.refl _ _).alloc (Nat.le_refl _) _ : Below w10.heap.size w10 (w10.alloc (.cells #[.string g1, .string a1, .string u1, .slice pb l1.length pd] 26))).mono HB19.out.size))
    refine (HLV.out _ (HB0.out.trans (HB20.out.mono HB0.out.size))).mono ?_
    rintro e w11 ⟨rfl, hb11⟩
    have HB := Lib.hid (HB0.out.trans ((HB20.out.trans (hb11.mono HB20.out.size)).mono HB0.out.size))
    clear hb11
    go_wp2
    go_ret
    exact ⟨rfl, HB.out⟩
  case neg =>
    have hmb : (more.toList == []) = false := by rw [hemp]; exact decide_eq_false hmz
    obtain ⟨n3, hn3⟩ : ∃ n3, parseL (s1 ++ more).data.toList = .inl n3 := by
      rw [hadd]
      exact hlo _ (fun h => by have := congrArg List.length h; rw [data_len, List.length_nil] at this; omega)
    have HG3 := Lib.hid (fun w' (hb : Below w.heap.size w w') => Parse_bad (s1 ++ more) haz n3 hn3 w' (HT.out.below hb (Nat.le_refl _)))
    clear hlo hpp hadd hemp hn3
    go_wp2_with fail
    refine (HG3.out _ (HB0.out.trans (HB18.out.mono HB0.out.size))).mono ?_
    rintro e w10 ⟨rfl, hb10⟩
    have HB19 := Lib.hid (HB18.out.trans (hb10.mono HB18.out.size))
    clear hb10
    go_wp2_with fail
    have HB20 := Lib.hid (HB19.out.trans (((Below.refl _ _).alloc (Nat.le_refl _) _ : Below w10.heap.size w10 (w10.alloc (.cells #[.string ⟨#[]⟩, .string ⟨#[]⟩, .string ⟨#[]⟩, .slice none 0 0] 26))).mono HB19.out.size))
    refine (HLV.out _ (HB0.out.trans (HB20.out.mono HB0.out.size))).mono ?_
    rintro e w11 ⟨rfl, hb11⟩
    have HB := Lib.hid (HB0.out.trans ((HB20.out.trans (hb11.mono HB20.out.size)).mono HB0.out.size))
    clear hb11
    go_wp2
    go_ret
    exact ⟨rfl, HB.out⟩

theorem laid_met_LockBack (os : Os) : laidMet Tryd.prog Rows.lockBackRow.laid ((laidWorld #[.agg #[.string .empty, .string .empty, .string .empty, .slice none 0 0], .int .u64 0, .string .empty] os).forCall (fun _ _ => 0) ⟨#[], #[.agg #[.string .empty, .string .empty, .string .empty, .slice none 0 0], .int .u64 0, .string .empty], []⟩).memory :=
  laidMet_of_run' 8 (by kernel_rfl) (by kernel_rfl)
theorem reads_LockBack (os : Os) {H : Type} (enc : TypeId × Value → H) : ∃ places, DataW.whole enc Tryd.prog ((laidWorld #[.agg #[.string .empty, .string .empty, .string .empty, .slice none 0 0], .int .u64 0, .string .empty] os).forCall (fun _ _ => 0) ⟨#[], #[.agg #[.string .empty, .string .empty, .string .empty, .slice none 0 0], .int .u64 0, .string .empty], []⟩).memory Tryd.f5.params.toList Rows.lockBackSpec.vars false (#[.agg #[.string .empty, .string .empty, .string .empty, .slice none 0 0], .int .u64 0, .string .empty] : Array Value).toList 8 = some ([.agg [.agg [.lit (.string []), .lit (.string []), .lit (.string [])], .nil], .lit (.int .u64 0), .lit (.string [])], [], places) :=
  ⟨[], by kernel_rfl⟩
set_option maxRecDepth 100000 in
theorem lifted_LockBack (os : Os) (started : os.Started) (H : Type) (enc : TypeId × Value → H) (F : Stop.Interp) :
    ReturnsInHanded {} Tryd.checked os 5 .any ((OpenSpec.ofChange Rows.lockBackSpec).preRow enc Tryd.prog Tryd.f5 Rows.lockBackRow.domain false Rows.lockBackRow.laid) (((OpenSpec.ofChange Rows.lockBackSpec).at F).post enc Tryd.prog Tryd.f5 false true false false) := by
  obtain ⟨places, hx⟩ := reads_LockBack os enc
  refine returnsInHanded_of_row (C := Tryd.checked) (s := OpenSpec.ofChange Rows.lockBackSpec) own_knob started (by kernel_rfl) Tryd.func5
    (witness_row_at (enc := enc) (C := Tryd.checked) false (laidWorld #[.agg #[.string .empty, .string .empty, .string .empty, .slice none 0 0], .int .u64 0, .string .empty] os) #[.agg #[.string .empty, .string .empty, .string .empty, .slice none 0 0], .int .u64 0, .string .empty] rfl (by kernel_rfl) (by kernel_rfl) (by kernel_rfl)
      (OpenSpec.preRow_of_cond 8 hx (by kernel_rfl) (fun k hk => by cases hk) (by kernel_rfl) (laid_met_LockBack os))) ?_
  intro W base args ds gs before hval0 hW _ _ hz hL hsh _
  have hT : Tb W := tb_of hsh hL (.tail _ (.tail _ (.head _)))
  have hval : ∀ (j : Nat) t v, Tryd.f5.params[j]? = some t → args[j]? = some v → Value.okWide Tryd.prog W .any base t v := hval0
  have hW' := hW
  obtain ⟨p, q, hA0, hV, rfl, _, _⟩ := hW
  have hA : DataW.TrodAll enc Tryd.prog W 0 (fun _ => true) true Tryd.f5.params.toList args.toList ds p := hA0
  rw [Tryd.params5] at hA hval
  obtain ⟨v0, vs0, d0, ds0, p0, q0, hargs, rfl, rfl, h0, r0⟩ := trodAll_cons hA
  obtain ⟨v1, vs1, d1, ds1, p1, q1, rfl, rfl, rfl, h1, r1⟩ := trodAll_cons r0
  obtain ⟨v2, vs2, d2, ds2, p2, q2, rfl, rfl, rfl, h2, r2⟩ := trodAll_cons r1
  obtain ⟨rfl, rfl, rfl⟩ := trodAll_nil r2
  obtain rfl : args = #[v0, v1, v2] := by cases args; simp_all
  obtain ⟨rfl, rfl⟩ := trodVars_none hV
  obtain ⟨g0, a0, u0, pv0, l0, rfl, rd0, og0, oa0, ou0, ol0⟩ := open_lock (hval 0 26 v0 rfl rfl) h0 (wb_arg hz (j := 0) rfl rfl)
  obtain ⟨a1, rfl, rfl, rfl, w1⟩ := open_int Tryd.underlying37 (hval 1 37 v1 rfl rfl) h1
  obtain ⟨a2, rfl, rfl, rfl, w2⟩ := open_string Tryd.underlying9 (hval 2 9 v2 rfl rfl) h2
  clear hA0 hval0
  refine (walk_LockBack g0 a0 u0 pv0 l0 og0 oa0 ou0 ol0 W rd0 a1 (wf_u64 w1) a2 (by unfold maxLen at w2; exact w2) hT).mono fun e W' ⟨he, hb⟩ => ?_
  subst he
  exact ⟨_, rfl, law_post (by kernel_rfl) rfl rfl rfl hW' hb⟩
theorem said_LockBack : Rows.LockBackSaid :=
  OpenClaim.holds_of_cond 5 Tryd.f5 rfl rfl rfl rfl rfl rfl rfl ⟨rfl, rfl, rfl, rfl, rfl⟩ rfl rfl rfl rfl rfl (by kernel_rfl) Tryd.func5 (by kernel_rfl)
    (of_decide_eq_true (by kernel_rfl)) (by unfold Func.isWrapper; first | (rw [if_pos (by decide +kernel)]; kernel_rfl) | (rw [if_neg (by decide +kernel)]; exact ⟨rfl, rfl⟩))
    (fun os started H enc _ F => by rw [OpenClaim.pre_eq_preRow]; exact lifted_LockBack os started H enc F)
set_option maxRecDepth 100000 in
theorem plain_LockBack (f : FuncId) (fn : Func) (hf : Tryd.pinned.checked.prog.funcNamed "pomace/pomacelaw24.LockBack" = some f) (hfn : Tryd.pinned.checked.prog.funcs[f]? = some fn) :
    false = Tryd.pinned.checked.prog.looks [] ∧ ∀ (j : Nat) t, fn.params[j]? = some t → Tryd.pinned.checked.prog.wantsStandIn t = false := by
  obtain rfl : f = 5 := Option.some.inj ((show Tryd.prog.funcNamed "pomace/pomacelaw24.LockBack" = some 5 by kernel_rfl).symm.trans hf) |>.symm
  obtain rfl : fn = Tryd.f5 := (Option.some.inj (Tryd.func5.symm.trans hfn)).symm
  refine ⟨by kernel_rfl, fun j t ht => ?_⟩
  rw [Tryd.params5] at ht
  have h := Array.mem_of_getElem? ht
  simp only [List.mem_toArray, List.mem_cons, List.not_mem_nil, or_false] at h
  rcases h with rfl | rfl | rfl
  all_goals first
    | exact (show Tryd.prog.wantsStandIn 26 = false by kernel_rfl)
    | exact (show Tryd.prog.wantsStandIn 37 = false by kernel_rfl)
    | exact (show Tryd.prog.wantsStandIn 9 = false by kernel_rfl)

/-- the statement of LockBack: its card -/
theorem proved_LockBack : Rows.LockBackCardSaid :=
  Claim7.holds_tied_plain_at .later [] _ _ _ _ said_LockBack (fun _ h => by cases h) (by kernel_rfl) (fun _ h => by cases h) lockBack_row_tie rfl ⟨rfl, rfl⟩ (by kernel_rfl) rfl plain_LockBack (by kernel_rfl)
end Go.Proofs.YtcmojpfolmcaoaaDoor
