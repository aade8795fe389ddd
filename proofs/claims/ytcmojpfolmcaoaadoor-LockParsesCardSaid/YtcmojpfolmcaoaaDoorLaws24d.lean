/-
  Layer 24: the card LockParses: any text is parsed as the document says, or is wrong at the line that it says. For every input. Own work.
-/
import Derived.Test.YtcmojpfolmcaoaaDoorLives24
import Derived.Test.YtcmojpfolmcaoaaDoorRefSame24
import Derived.Test.YtcmojpfolmcaoaaDoorRefParse24
import Derived.Test.YtcmojpfolmcaoaaDoorDoor24
namespace Go.Proofs.YtcmojpfolmcaoaaDoor
set_option linter.unusedVariables false
set_option linter.unusedSimpArgs false
open Go.ChangeShapes Go.WideShapes Go.ChangeAt Go.RowKit
open Go.ChangeMaps (open_string shut_string)

theorem goM_ge : ∀ (L : List (List UInt8)) (n k : Nat) (st : St), goM n L st = .inl k → n ≤ k
  | [], n, k, st, h => by rw [goM] at h; cases h; exact Nat.le_refl _
  | [x], n, k, st, h => by
    rw [goM] at h
    split at h
    · split at h
      · cases h
      · cases h; exact Nat.le_refl _
    · split at h <;> (cases h; omega)
  | x :: y :: r, n, k, st, h => by
    rw [goM] at h
    split at h
    · cases h; exact Nat.le_refl _
    · rename_i st' _
      have := goM_ge (y :: r) (n + 1) k st' h
      omega
theorem parse_ge {s : List UInt8} {k : Nat} (h : parseL s = .inl k) : 1 ≤ k := goM_ge _ 1 k _ h
theorem sameLk_selfP (g a v : ByteArray) (l : List Pn) : sameLk g a v l g a v l = true := by
  unfold sameLk sameG
  rw [sameL_yes rfl (fun i hi => by rw [sameAt_is (List.getElem?_eq_getElem hi) (List.getElem?_eq_getElem hi)]; simp [sameP])]
  simp
theorem pins_len {g a v : ByteArray} {l : List Pn} (h : mayLock g a v l = true) : l.length ≤ 4096 := by
  unfold mayLock at h
  simp only [Bool.and_eq_true, decide_eq_true_eq] at h
  exact h.1.2
def BothBad (n : Nat) (w : World) (e : Ending) (w' : World) : Prop := e = .returned (.tuple #[.agg #[.string ⟨#[]⟩, .string ⟨#[]⟩, .string ⟨#[]⟩, .slice none 0 0], .int .i64 n]) ∧ Below w.heap.size w w'
theorem ref_bad (s : ByteArray) (hs : s.size ≤ 3000) (n : Nat) (h : parseL s.data.toList = .inl n) (w : World) (hT : Tb w) :
    Calls Tryd.prog 16 #[.string s] w (BothBad n w) := by
  refine (refParse_any s hs w hT).mono ?_
  rintro e w' (⟨st, pv, hp, _⟩ | ⟨k, hp, _, rfl, hb⟩)
  · rw [h] at hp; cases hp
  · rw [h] at hp
    cases hp
    exact ⟨rfl, hb⟩
theorem ref_n (s : ByteArray) (hs : s.size ≤ 3000) (n : Nat) (h : parseL s.data.toList = .inl n) : 1 ≤ n := parse_ge h
def RefGood (g a v : ByteArray) (l : List Pn) (w : World) (e : Ending) (w' : World) : Prop :=
  ∃ pa pc, e = .returned (.tuple #[.agg #[.string g, .string a, .string v, .slice pa l.length pc], .int .i64 0]) ∧ RdN w' (.slice pa l.length pc) l ∧ Below w.heap.size w w'
theorem ref_good (s : ByteArray) (hs : s.size ≤ 3000) (g a v : ByteArray) (l : List Pn) (b : Bool) (h : parseL s.data.toList = .inr ⟨g, a, v, l, b⟩) (w : World) (hT : Tb w) :
    Calls Tryd.prog 16 #[.string s] w (RefGood g a v l w) := by
  refine (refParse_any s hs w hT).mono ?_
  rintro e w' (⟨st, pv, hp, rfl, hr, hb⟩ | ⟨k, hp, _⟩)
  · rw [h] at hp
    cases hp
    obtain ⟨pa, pc, rfl⟩ := hr.shape
    exact ⟨pa, pc, rfl, hr, hb⟩
  · rw [h] at hp; cases hp
theorem ParseC (s : ByteArray) (hs : s.size ≤ 100000) (w : World) (hT : Tb w) : Calls Tryd.prog 15 #[.string s] w (ParseP s.data.toList w) := by
  have := Parse_any s.data.toList (by rw [data_len]; exact hs) w hT
  rw [str_toList] at this
  exact this
set_option maxRecDepth 100000 in
set_option maxHeartbeats 4000000 in
theorem walk_LockParses (s : ByteArray) (hs : s.size ≤ 9223372036854775807) (w : World) (hT : Tb w) :
    Calls Tryd.prog 4 #[.string s] w fun e w' => e = .returned (.bool true) ∧ Below w.heap.size w w' := by
  have hpa := ParseC (s.extract 0 (min (s.size : Int) 3000).toNat) (by rw [ByteArray.size_extract]; omega) w hT
  have htz : (s.extract 0 (min (s.size : Int) 3000).toNat).size ≤ 3000 := by rw [ByteArray.size_extract]; omega
  have HT := Lib.hid hT
  have HLV := Lib.hid (fun w' (hb : Below w.heap.size w w') => lives_any w' (hT.below hb (Nat.le_refl _)))
  have hm0 : (0 : Int) ≤ min (s.size : Int) 3000 := by omega
  have hm1 : min (s.size : Int) 3000 ≤ s.size := by omega
  have HPA := Lib.hid hpa
  clear hT hpa
  go_enter Tryd.func4, Tryd.ntmps4
  go_upto_region 2 with fail
  generalize s.extract 0 (min (s.size : Int) 3000).toNat = t at HPA htz ⊢
  go_wp2_with fail
  refine HPA.out.mono ?_
  rintro e w2 (⟨st, pv, h, rfl, hrd, hb2⟩ | ⟨n, h, rfl, hb2⟩)
  case inr =>
    have hn1 := parse_ge h
    have HRP := Lib.hid (fun w' (hb : Below w.heap.size w w') => ref_bad t htz n h w' (HT.out.below hb (Nat.le_refl _)))
    have HRS := Lib.hid (fun w' hr hs => refSame_any ⟨#[]⟩ ⟨#[]⟩ ⟨#[]⟩ ⟨#[]⟩ ⟨#[]⟩ ⟨#[]⟩ (.slice none 0 0) (.slice none 0 0) [] [] (by decide) (by decide) w' hr hs)
    rw [sameLk_selfP] at HRS
    unfold lockV at HRS
    have hnb : ((n : Int) == 0) = false := beq_false_of_ne (by omega)
    have hba : Below w2.heap.size w2 (w2.alloc (.cells #[.string ⟨#[]⟩, .string ⟨#[]⟩, .string ⟨#[]⟩, .slice none 0 0] 26)) := (Below.refl _ _).alloc (Nat.le_refl _) _
    have hlk := LkIn.new w2 ⟨#[]⟩ ⟨#[]⟩ ⟨#[]⟩ (.slice none 0 0)
    have HB3 := Lib.hid (hb2.trans (hba.mono hb2.size))
    clear h hb2 hba hn1
    unfold lockV
    go_upto_region 3 with fail
    generalize w2.alloc (.cells #[.string ⟨#[]⟩, .string ⟨#[]⟩, .string ⟨#[]⟩, .slice none 0 0] 26) = w3 at hlk HB3 ⊢
    generalize w2.heap.size = V at hlk ⊢
    have HLK := Lib.hid hlk
    clear hlk
    go_wp2_with fail
    refine (HRP.out _ HB3.out).mono ?_
    rintro e w4 ⟨rfl, hb4⟩
    have hbb : Below w4.heap.size w4 (w4.alloc (.cells #[.string ⟨#[]⟩, .string ⟨#[]⟩, .string ⟨#[]⟩, .slice none 0 0] 26)) := (Below.refl _ _).alloc (Nat.le_refl _) _
    have HB34 := Lib.hid (hb4.trans (hbb.mono hb4.size))
    have HL2 := Lib.hid (LkIn.new w4 ⟨#[]⟩ ⟨#[]⟩ ⟨#[]⟩ (.slice none 0 0))
    clear hb4 hbb
    go_upto_region 4 with fail
    generalize w4.alloc (.cells #[.string ⟨#[]⟩, .string ⟨#[]⟩, .string ⟨#[]⟩, .slice none 0 0] 26) = w5 at HB34 HL2 ⊢
    generalize w4.heap.size = V2 at HL2 ⊢
    obtain ⟨y0, y1, y2, y3⟩ := HLK.out.below HB34.out (Nat.le_refl _)
    obtain ⟨x0, x1, x2, x3⟩ := HL2.out
    have HB5 := Lib.hid (HB3.out.trans (HB34.out.mono HB3.out.size))
    go_wp2_with fail
    refine (HRS.out _ (.inl ⟨rfl, rfl⟩) (.inl ⟨rfl, rfl⟩)).mono ?_
    rintro e w6 ⟨rfl, hb6⟩
    have HB6 := Lib.hid (HB5.out.trans (hb6.mono HB5.out.size))
    clear y0 y1 y2 y3 x0 x1 x2 x3 hb6
    go_wp2_with fail
    refine (HLV.out _ HB6.out).mono ?_
    rintro e w7 ⟨rfl, hb7⟩
    have HB7 := Lib.hid (HB6.out.trans (hb7.mono HB6.out.size))
    clear hb7
    go_wp2
    go_ret
    exact ⟨rfl, HB7.out⟩
  obtain ⟨hpr, hml⟩ := parse_back h
  obtain ⟨rg, ra, rv, pins, ended⟩ := st
  simp only at hpr hml hrd
  have hl4 := pins_len hml
  obtain ⟨va, vc, rfl⟩ := hrd.shape
  have HRP := Lib.hid (fun w' (hb : Below w.heap.size w w') => ref_good t htz rg ra rv pins ended h w' (HT.out.below hb (Nat.le_refl _)))
  have HRS := Lib.hid (fun w' qa qc hr hs => refSame_any rg ra rv rg ra rv (.slice va pins.length vc) (.slice qa pins.length qc) pins pins (by omega) (by omega) w' hr hs)
  rw [sameLk_selfP] at HRS
  unfold lockV at HRS
  have hba : Below w2.heap.size w2 (w2.alloc (.cells #[.string rg, .string ra, .string rv, .slice va pins.length vc] 26)) := (Below.refl _ _).alloc (Nat.le_refl _) _
  have hlk := LkIn.new w2 rg ra rv (.slice va pins.length vc)
  have HR3 := Lib.hid (hrd.below hba (Nat.le_refl _))
  have HB3 := Lib.hid (hb2.trans (hba.mono hb2.size))
  clear h hpr hml hl4 hrd hb2 hba
  unfold lockV
  go_upto_region 3 with fail
  generalize w2.alloc (.cells #[.string rg, .string ra, .string rv, .slice va pins.length vc] 26) = w3 at hlk HR3 HB3 ⊢
  generalize w2.heap.size = V at hlk ⊢
  have HLK := Lib.hid hlk
  clear hlk
  go_wp2_with fail
  refine (HRP.out _ HB3.out).mono ?_
  rintro e w4 ⟨qa, qc, rfl, hr4, hb4⟩
  have hbb : Below w4.heap.size w4 (w4.alloc (.cells #[.string rg, .string ra, .string rv, .slice qa pins.length qc] 26)) := (Below.refl _ _).alloc (Nat.le_refl _) _
  have HB34 := Lib.hid (hb4.trans (hbb.mono hb4.size))
  have HL2 := Lib.hid (LkIn.new w4 rg ra rv (.slice qa pins.length qc))
  have HR4 := Lib.hid (hr4.below hbb (Nat.le_refl _))
  clear hb4 hbb hr4
  go_upto_region 4 with fail
  generalize w4.alloc (.cells #[.string rg, .string ra, .string rv, .slice qa pins.length qc] 26) = w5 at HB34 HL2 HR4 ⊢
  generalize w4.heap.size = V2 at HL2 ⊢
  obtain ⟨y0, y1, y2, y3⟩ := HLK.out.below HB34.out (Nat.le_refl _)
  obtain ⟨x0, x1, x2, x3⟩ := HL2.out
  have HB5 := Lib.hid (HB3.out.trans (HB34.out.mono HB3.out.size))
  go_wp2_with fail
  refine (HRS.out _ qa qc (HR3.out.below HB34.out (Nat.le_refl _)) HR4.out).mono ?_
  rintro e w6 ⟨rfl, hb6⟩
  have HB6 := Lib.hid (HB5.out.trans (hb6.mono HB5.out.size))
  clear y0 y1 y2 y3 x0 x1 x2 x3 hb6
  go_wp2_with fail
  refine (HLV.out _ HB6.out).mono ?_
  rintro e w7 ⟨rfl, hb7⟩
  have HB7 := Lib.hid (HB6.out.trans (hb7.mono HB6.out.size))
  clear hb7
  go_wp2
  go_ret
  exact ⟨rfl, HB7.out⟩

theorem laid_met_LockParses (os : Os) : laidMet Tryd.prog Rows.lockParsesRow.laid ((laidWorld #[.string .empty] os).forCall (fun _ _ => 0) ⟨#[], #[.string .empty], []⟩).memory :=
  laidMet_of_run' 8 (by kernel_rfl) (by kernel_rfl)
theorem reads_LockParses (os : Os) {H : Type} (enc : TypeId × Value → H) : ∃ places, DataW.whole enc Tryd.prog ((laidWorld #[.string .empty] os).forCall (fun _ _ => 0) ⟨#[], #[.string .empty], []⟩).memory Tryd.f4.params.toList Rows.lockParsesSpec.vars false (#[.string .empty] : Array Value).toList 8 = some ([.lit (.string [])], [], places) :=
  ⟨[], by kernel_rfl⟩
set_option maxRecDepth 100000 in
theorem lifted_LockParses (os : Os) (started : os.Started) (H : Type) (enc : TypeId × Value → H) (F : Stop.Interp) :
    ReturnsInHanded {} Tryd.checked os 4 .any ((OpenSpec.ofChange Rows.lockParsesSpec).preRow enc Tryd.prog Tryd.f4 Rows.lockParsesRow.domain false Rows.lockParsesRow.laid) (((OpenSpec.ofChange Rows.lockParsesSpec).at F).post enc Tryd.prog Tryd.f4 false true false false) := by
  obtain ⟨places, hx⟩ := reads_LockParses os enc
  refine returnsInHanded_of_row (C := Tryd.checked) (s := OpenSpec.ofChange Rows.lockParsesSpec) own_knob started (by kernel_rfl) Tryd.func4
    (witness_row_at (enc := enc) (C := Tryd.checked) false (laidWorld #[.string .empty] os) #[.string .empty] rfl (by kernel_rfl) (by kernel_rfl) (by kernel_rfl)
      (OpenSpec.preRow_of_cond 8 hx (by kernel_rfl) (fun k hk => by cases hk) (by kernel_rfl) (laid_met_LockParses os))) ?_
  intro W base args ds gs before hval0 hW _ _ hz hL hsh _
  have hT : Tb W := tb_of hsh hL (.tail _ (.tail _ (.head _)))
  have hval : ∀ (j : Nat) t v, Tryd.f4.params[j]? = some t → args[j]? = some v → Value.okWide Tryd.prog W .any base t v := hval0
  have hW' := hW
  obtain ⟨p, q, hA0, hV, rfl, _, _⟩ := hW
  have hA : DataW.TrodAll enc Tryd.prog W 0 (fun _ => true) true Tryd.f4.params.toList args.toList ds p := hA0
  rw [Tryd.params4] at hA hval
  obtain ⟨v0, vs0, d0, ds0, p0, q0, hargs, rfl, rfl, h0, r0⟩ := trodAll_cons hA
  obtain ⟨rfl, rfl, rfl⟩ := trodAll_nil r0
  obtain rfl : args = #[v0] := by cases args; simp_all
  obtain ⟨rfl, rfl⟩ := trodVars_none hV
  obtain ⟨a0, rfl, rfl, rfl, w0⟩ := open_string Tryd.underlying9 (hval 0 9 v0 rfl rfl) h0
  clear hA0 hval0
  refine (walk_LockParses a0 (by unfold maxLen at w0; exact w0) W hT).mono fun e W' ⟨he, hb⟩ => ?_
  subst he
  exact ⟨_, rfl, law_post (by kernel_rfl) rfl rfl rfl hW' hb⟩
theorem said_LockParses : Rows.LockParsesSaid :=
  OpenClaim.holds_of_cond 4 Tryd.f4 rfl rfl rfl rfl rfl rfl rfl ⟨rfl, rfl, rfl, rfl, rfl⟩ rfl rfl rfl rfl rfl (by kernel_rfl) Tryd.func4 (by kernel_rfl)
    (of_decide_eq_true (by kernel_rfl)) (by unfold Func.isWrapper; first | (rw [if_pos (by decide +kernel)]; kernel_rfl) | (rw [if_neg (by decide +kernel)]; exact ⟨rfl, rfl⟩))
    (fun os started H enc _ F => by rw [OpenClaim.pre_eq_preRow]; exact lifted_LockParses os started H enc F)
set_option maxRecDepth 100000 in
theorem plain_LockParses (f : FuncId) (fn : Func) (hf : Tryd.pinned.checked.prog.funcNamed "pomace/pomacelaw24.LockParses" = some f) (hfn : Tryd.pinned.checked.prog.funcs[f]? = some fn) :
    false = Tryd.pinned.checked.prog.looks [] ∧ ∀ (j : Nat) t, fn.params[j]? = some t → Tryd.pinned.checked.prog.wantsStandIn t = false := by
  obtain rfl : f = 4 := Option.some.inj ((show Tryd.prog.funcNamed "pomace/pomacelaw24.LockParses" = some 4 by kernel_rfl).symm.trans hf) |>.symm
  obtain rfl : fn = Tryd.f4 := (Option.some.inj (Tryd.func4.symm.trans hfn)).symm
  refine ⟨by kernel_rfl, fun j t ht => ?_⟩
  rw [Tryd.params4] at ht
  have h := Array.mem_of_getElem? ht
  simp only [List.mem_toArray, List.mem_cons, List.not_mem_nil, or_false] at h
  rcases h with rfl
  all_goals first
    | exact (show Tryd.prog.wantsStandIn 9 = false by kernel_rfl)

/-- the statement of LockParses: its card -/
theorem proved_LockParses : Rows.LockParsesCardSaid :=
  Claim7.holds_tied_plain_at .later [] _ _ _ _ said_LockParses (fun _ h => by cases h) (by kernel_rfl) (fun _ h => by cases h) lockParses_row_tie rfl ⟨rfl, rfl⟩ (by kernel_rfl) rfl plain_LockParses (by kernel_rfl)
end Go.Proofs.YtcmojpfolmcaoaaDoor
