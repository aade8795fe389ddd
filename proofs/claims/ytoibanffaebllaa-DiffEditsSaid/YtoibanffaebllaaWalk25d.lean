/-
  Layer 25: the statement DiffEdits, its walk: what is another one in any two locks is what the document says, and may be. For every input. Own work.
-/
import Derived.Test.YtoibanffaebllaaRefEd25
import Derived.Test.YtoibanffaebllaaWalk25a
namespace Go.Proofs.Ytoibanffaebllaa
set_option linter.unusedVariables false
set_option linter.unusedSimpArgs false
open Go.ChangeShapes Go.WideShapes Go.ChangeAt Go.RowKit
open Go.ChangeMaps (open_string shut_string)

theorem eds_same {gA aA uA gB aB uB : ByteArray} {A B : List Pn} {w : World} {v : Value} (h : (mayLock gA aA uA A && mayLock gB aB uB B) = false ∧ RdE w v [] ∨ (mayLock gA aA uA A && mayLock gB aB uB B) = true ∧ ∃ keys, IsKeys (A ++ B) keys ∧ RdE w v (edsR A B keys)) : RdE w v (editsL (mayLock gA aA uA A) (mayLock gB aB uB B) A B) := by
  unfold editsL
  rcases h with ⟨h1, h2⟩ | ⟨h1, keys, h2, h3⟩
  · rw [if_neg (by rw [h1]; simp)]; exact h2
  · rw [if_pos h1, ← edsR_edits (mayLock_ok (Bool.and_eq_true_iff.1 h1).1) (mayLock_ok (Bool.and_eq_true_iff.1 h1).2) h2]; exact h3
theorem eds_may (gA aA uA gB aB uB : ByteArray) (A B : List Pn) : mayEds (editsL (mayLock gA aA uA A) (mayLock gB aB uB B) A B) = true := by
  unfold editsL
  by_cases h : (mayLock gA aA uA A && mayLock gB aB uB B) = true
  · rw [if_pos h]; exact edits_may (mayLock_ok (Bool.and_eq_true_iff.1 h).1) (mayLock_ok (Bool.and_eq_true_iff.1 h).2)
  · rw [if_neg h]; rfl
theorem eds_len (mA mB : Bool) (A B : List Pn) : (editsL mA mB A B).length ≤ A.length + B.length := by
  unfold editsL
  split
  · exact edits_len A B
  · simp
set_option maxRecDepth 100000 in
set_option maxHeartbeats 8000000 in
theorem walk_DiffEdits (ag aa au : ByteArray) (av : Value) (al : List Pn) (a1 : okR ag) (a2 : okR aa) (a3 : okR au) (a4 : ∀ p ∈ al, okK p) (w : World) (ard : RdN w av al) (bg ba bu : ByteArray) (bv : Value) (bl : List Pn) (b1 : okR bg) (b2 : okR ba) (b3 : okR bu) (b4 : ∀ p ∈ bl, okK p) (brd : RdN w bv bl) :
    Calls Try.prog 3 #[lockV ag aa au av, lockV bg ba bu bv] w fun e w' => e = .returned (.bool true) ∧ Below w.heap.size w w' := by
  obtain ⟨pa, qa, rfl⟩ := ard.shape
  obtain ⟨pb, qb, rfl⟩ := brd.shape
  have HLV := Lib.hid lives_any
  have HL1 := Lib.hid (fun w' hr => Light_any ag aa au a1 a2 a3 (.slice pa al.length qa) al a4 w' hr)
  have HL2 := Lib.hid (fun w' hr => Light_any bg ba bu b1 b2 b3 (.slice pb bl.length qb) bl b4 w' hr)
  unfold lockV at HL1 HL2 ⊢
  have hb0 : Below w.heap.size w ((w.alloc (.cells #[.string ag, .string aa, .string au, .slice pa al.length qa] 26)).alloc (.cells #[.string bg, .string ba, .string bu, .slice pb bl.length qb] 26)) := ((Below.refl w.heap.size w).alloc (Nat.le_refl _) _).alloc (by simp) _
  have hk1 : LkIn ((w.alloc (.cells #[.string ag, .string aa, .string au, .slice pa al.length qa] 26)).alloc (.cells #[.string bg, .string ba, .string bu, .slice pb bl.length qb] 26)) w.heap.size ag aa au (.slice pa al.length qa) := (LkIn.new w ag aa au _).below ((Below.refl _ _).alloc (Nat.le_refl _) _) (Nat.le_refl _)
  have hk2 : LkIn ((w.alloc (.cells #[.string ag, .string aa, .string au, .slice pa al.length qa] 26)).alloc (.cells #[.string bg, .string ba, .string bu, .slice pb bl.length qb] 26)) (w.heap.size + 1) bg ba bu (.slice pb bl.length qb) := by
    have := LkIn.new (w.alloc (.cells #[.string ag, .string aa, .string au, .slice pa al.length qa] 26)) bg ba bu (.slice pb bl.length qb)
    simpa using this
  have hbx : BX ((w.alloc (.cells #[.string ag, .string aa, .string au, .slice pa al.length qa] 26)).alloc (.cells #[.string bg, .string ba, .string bu, .slice pb bl.length qb] 26)) w.heap.size (w.heap.size + 1) ag aa au bg ba bu (.slice pa al.length qa) (.slice pb bl.length qb) al bl ((w.alloc (.cells #[.string ag, .string aa, .string au, .slice pa al.length qa] 26)).alloc (.cells #[.string bg, .string ba, .string bu, .slice pb bl.length qb] 26)) := ⟨hk1, hk2, ard.below hb0 (Nat.le_refl _), brd.below hb0 (Nat.le_refl _), Below.refl _ _⟩
  have HB0 := Lib.hid hb0
  clear ard brd hb0 hk1 hk2 a1 a2 a3 a4 b1 b2 b3 b4
  go_enter Try.func3, Try.ntmps3
  go_upto_region 1 with fail
  generalize ((w.alloc (.cells #[.string ag, .string aa, .string au, .slice pa al.length qa] 26)).alloc (.cells #[.string bg, .string ba, .string bu, .slice pb bl.length qb] 26)) = w1 at hbx HB0 ⊢
  obtain ⟨YB, hYB⟩ : ∃ H1, H1 = w.heap.size + 1 := ⟨_, rfl⟩
  rw [← hYB] at hbx
  simp only [← hYB]
  clear hYB
  have HBX := Lib.hid hbx
  obtain ⟨⟨x0, x1, x2, x3⟩, _, hra, _⟩ := hbx
  go_wp2_with fail
  refine (HL1.out _ hra).mono ?_
  rintro e w2 ⟨bb, rfl, hl1, hb2⟩
  have HX2 := Lib.hid (HBX.out.keep (B := 0) HBX.out hb2)
  have HLT1 := Lib.hid hl1
  clear x0 x1 x2 x3 hra hl1 hb2
  cases bb
  · go_wp2_with fail
    refine (HLV.out _).mono ?_
    rintro e wz ⟨rfl, hbz⟩
    have HZ := Lib.hid (HB0.out.trans ((HX2.out.2.2.2.2.trans (hbz.mono HX2.out.2.2.2.2.size)).mono HB0.out.size))
    clear hbz
    go_wp2
    go_ret
    exact ⟨rfl, HZ.out⟩
  obtain ⟨_, ⟨y0, y1, y2, y3⟩, _, hrb, _⟩ := HX2.out
  go_wp2_with fail
  refine (HL2.out _ hrb).mono ?_
  rintro e w3 ⟨bb, rfl, hl2, hb3⟩
  have HX3 := Lib.hid (HX2.out.keep (B := 0) HBX.out (hb3.mono HX2.out.2.2.2.2.size))
  have HLT2 := Lib.hid hl2
  clear y0 y1 y2 y3 hrb hl2 hb3
  cases bb
  · go_wp2_with fail
    refine (HLV.out _).mono ?_
    rintro e wz ⟨rfl, hbz⟩
    have HZ := Lib.hid (HB0.out.trans ((HX3.out.2.2.2.2.trans (hbz.mono HX3.out.2.2.2.2.size)).mono HB0.out.size))
    clear hbz
    go_wp2
    go_ret
    exact ⟨rfl, HZ.out⟩
  obtain ⟨p1, p2, p3, p4, p5⟩ := light_okT (HLT1.out (by simp))
  obtain ⟨q1, q2, q3, q4, q5⟩ := light_okT (HLT2.out (by simp))
  have hed := fun w' r1 r2 => Edits_any ag aa au p1 p2 p3 bg ba bu q1 q2 q3 (.slice pa al.length qa) (.slice pb bl.length qb) al bl p4 q4 (by omega) (by omega) w' r1 r2
  have hrf := fun w' r1 r2 => refEdits_any ag aa au p1 p2 p3 (.slice pa al.length qa) al p4 (by omega) bg ba bu q1 q2 q3 (.slice pb bl.length qb) bl q4 (by omega) w' r1 r2
  have hln := eds_len (mayLock ag aa au al) (mayLock bg ba bu bl) al bl
  have hmy := eds_may ag aa au bg ba bu al bl
  have hsm := fun w' v (h : (mayLock ag aa au al && mayLock bg ba bu bl) = false ∧ RdE w' v [] ∨ (mayLock ag aa au al && mayLock bg ba bu bl) = true ∧ ∃ keys, IsKeys (al ++ bl) keys ∧ RdE w' v (edsR al bl keys)) => eds_same h
  unfold lockV at hed hrf
  generalize editsL (mayLock ag aa au al) (mayLock bg ba bu bl) al bl = E at hed hln hmy hsm
  have hme := fun v w' r => MayE_any v E (by omega) w' r
  rw [hmy] at hme
  have hse := fun v v' w' r r' => refSameE_any v v' E (by omega) w' r r'
  have HED := Lib.hid hed
  have HRF := Lib.hid hrf
  have HSM := Lib.hid hsm
  have HME := Lib.hid hme
  have HSE := Lib.hid hse
  clear hed hrf hsm hme hse hln hmy p1 p2 p3 p4 p5 q1 q2 q3 q4 q5
  obtain ⟨⟨x0, x1, x2, x3⟩, ⟨y0, y1, y2, y3⟩, hra, hrb, _⟩ := HX3.out
  go_wp2_with fail
  refine (HED.out _ hra hrb).mono ?_
  rintro e w4 ⟨v5, rfl, hE, hb4⟩
  have HX4 := Lib.hid (HX3.out.keep (B := 0) HBX.out (hb4.mono HX3.out.2.2.2.2.size))
  have HE4 := Lib.hid hE
  clear x0 x1 x2 x3 y0 y1 y2 y3 hra hrb hE hb4
  obtain ⟨⟨x0, x1, x2, x3⟩, ⟨y0, y1, y2, y3⟩, hra, hrb, _⟩ := HX4.out
  go_wp2_with fail
  refine (HRF.out _ hra hrb).mono ?_
  rintro e w5 ⟨v6, rfl, hb5, hE⟩
  have HX5 := Lib.hid (HX4.out.keep (B := 0) HBX.out (hb5.mono HX4.out.2.2.2.2.size))
  have HE5 := Lib.hid (HE4.out.below hb5 (Nat.le_refl _))
  have HF5 := Lib.hid (HSM.out _ _ hE)
  clear x0 x1 x2 x3 y0 y1 y2 y3 hra hrb hE hb5
  go_wp2_with fail
  refine (HSE.out _ _ _ HE5.out HF5.out).mono ?_
  rintro e w6 ⟨rfl, hb6⟩
  have HX6 := Lib.hid (HX5.out.keep (B := 0) HBX.out (hb6.mono HX5.out.2.2.2.2.size))
  have HE6 := Lib.hid (HE5.out.below hb6 (Nat.le_refl _))
  clear hb6
  go_wp2_with fail
  refine (HME.out _ _ HE6.out).mono ?_
  rintro e w7 ⟨rfl, hb7⟩
  have HX7 := Lib.hid (HX6.out.keep (B := 0) HBX.out (hb7.mono HX6.out.2.2.2.2.size))
  clear hb7
  go_wp2_with fail
  refine (HLV.out _).mono ?_
  rintro e wz ⟨rfl, hbz⟩
  have HZ := Lib.hid (HB0.out.trans ((HX7.out.2.2.2.2.trans (hbz.mono HX7.out.2.2.2.2.size)).mono HB0.out.size))
  clear hbz
  go_wp2
  go_ret
  exact ⟨rfl, HZ.out⟩
end Go.Proofs.Ytoibanffaebllaa
