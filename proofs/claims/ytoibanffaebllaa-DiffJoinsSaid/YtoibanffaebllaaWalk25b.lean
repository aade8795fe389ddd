/-
  Layer 25: the statement DiffJoins, its walk: edits from one lock to a second, and from that to a third, are joined to those from the first to the third; edits joined with themselves turned make nothing. For every input. Own work.
-/
import Derived.Test.YtoibanffaebllaaJoin25
import Derived.Test.YtoibanffaebllaaWalk25a
namespace Go.Proofs.Ytoibanffaebllaa
set_option linter.unusedVariables false
set_option linter.unusedSimpArgs false
open Go.ChangeShapes Go.WideShapes Go.ChangeAt Go.RowKit
open Go.ChangeMaps (open_string shut_string)

/-- a light lock that may be -/
def LtMay (g a u : ByteArray) (l : List Pn) : Prop := lightP g a u l ∧ mayLock g a u l = true
theorem joinOk_edits {A B C : List Pn} (hA : PinsOk A) (hB : PinsOk B) (hC : PinsOk C) : joinOk (edits A B) (edits B C) = true := by
  unfold joinOk
  rw [edits_may hA hB, edits_may hB hC, togs_edits hA hB hC]; rfl
theorem JoinP.yes {ok : Bool} {m : List Ed} {w : World} (h : ok = true) : ∀ e w', JoinP ok m w e w' → ∃ v, e = .returned (.tuple #[v, .bool true]) ∧ RdE w' v m ∧ Below w.heap.size w w' := by
  rintro e w' (⟨_, h1⟩ | ⟨h1, _⟩)
  · exact h1
  · rw [h] at h1; cases h1
set_option maxRecDepth 100000 in
set_option maxHeartbeats 8000000 in
theorem walk_DiffJoins (ag aa au : ByteArray) (av : Value) (al : List Pn) (a1 : okR ag) (a2 : okR aa) (a3 : okR au) (a4 : ∀ p ∈ al, okK p) (w : World) (ard : RdN w av al) (bg ba bu : ByteArray) (bv : Value) (bl : List Pn) (b1 : okR bg) (b2 : okR ba) (b3 : okR bu) (b4 : ∀ p ∈ bl, okK p) (brd : RdN w bv bl) (cg ca cu : ByteArray) (cv : Value) (cl : List Pn) (c1 : okR cg) (c2 : okR ca) (c3 : okR cu) (c4 : ∀ p ∈ cl, okK p) (crd : RdN w cv cl) :
    Calls Try.prog 6 #[lockV ag aa au av, lockV bg ba bu bv, lockV cg ca cu cv] w fun e w' => e = .returned (.bool true) ∧ Below w.heap.size w w' := by
  obtain ⟨pa, qa, rfl⟩ := ard.shape
  obtain ⟨pb, qb, rfl⟩ := brd.shape
  obtain ⟨pc, qc, rfl⟩ := crd.shape
  have HLV := Lib.hid lives_any
  have HLa := Lib.hid (fun w' hr => Light_any ag aa au a1 a2 a3 (.slice pa al.length qa) al a4 w' hr)
  have HLb := Lib.hid (fun w' hr => Light_any bg ba bu b1 b2 b3 (.slice pb bl.length qb) bl b4 w' hr)
  have HLc := Lib.hid (fun w' hr => Light_any cg ca cu c1 c2 c3 (.slice pc cl.length qc) cl c4 w' hr)
  unfold lockV at HLa HLb HLc ⊢
  have hb0 : Below w.heap.size w (((w.alloc (.cells #[.string ag, .string aa, .string au, .slice pa al.length qa] 26)).alloc (.cells #[.string bg, .string ba, .string bu, .slice pb bl.length qb] 26)).alloc (.cells #[.string cg, .string ca, .string cu, .slice pc cl.length qc] 26)) := (((Below.refl w.heap.size w).alloc (Nat.le_refl _) _).alloc (by simp) _).alloc (by simp; omega) _
  have hka : LkIn (((w.alloc (.cells #[.string ag, .string aa, .string au, .slice pa al.length qa] 26)).alloc (.cells #[.string bg, .string ba, .string bu, .slice pb bl.length qb] 26)).alloc (.cells #[.string cg, .string ca, .string cu, .slice pc cl.length qc] 26)) w.heap.size ag aa au (.slice pa al.length qa) := ((LkIn.new w ag aa au _).below ((Below.refl _ _).alloc (Nat.le_refl _) _) (Nat.le_refl _)).below ((Below.refl _ _).alloc (Nat.le_refl _) _) (Nat.le_refl _)
  have hkb : LkIn (((w.alloc (.cells #[.string ag, .string aa, .string au, .slice pa al.length qa] 26)).alloc (.cells #[.string bg, .string ba, .string bu, .slice pb bl.length qb] 26)).alloc (.cells #[.string cg, .string ca, .string cu, .slice pc cl.length qc] 26)) (w.heap.size + 1) bg ba bu (.slice pb bl.length qb) := by
    have := (LkIn.new (w.alloc (.cells #[.string ag, .string aa, .string au, .slice pa al.length qa] 26)) bg ba bu (.slice pb bl.length qb)).below ((Below.refl _ _).alloc (Nat.le_refl _) (.cells #[.string cg, .string ca, .string cu, .slice pc cl.length qc] 26)) (Nat.le_refl _)
    simpa using this
  have hkc : LkIn (((w.alloc (.cells #[.string ag, .string aa, .string au, .slice pa al.length qa] 26)).alloc (.cells #[.string bg, .string ba, .string bu, .slice pb bl.length qb] 26)).alloc (.cells #[.string cg, .string ca, .string cu, .slice pc cl.length qc] 26)) (w.heap.size + 1 + 1) cg ca cu (.slice pc cl.length qc) := by
    have := LkIn.new ((w.alloc (.cells #[.string ag, .string aa, .string au, .slice pa al.length qa] 26)).alloc (.cells #[.string bg, .string ba, .string bu, .slice pb bl.length qb] 26)) cg ca cu (.slice pc cl.length qc)
    simpa using this
  have HRa := Lib.hid (ard.below hb0 (Nat.le_refl _))
  have HRb := Lib.hid (brd.below hb0 (Nat.le_refl _))
  have HRc := Lib.hid (crd.below hb0 (Nat.le_refl _))
  have HB0 := Lib.hid hb0
  clear ard brd crd hb0 a1 a2 a3 a4 b1 b2 b3 b4 c1 c2 c3 c4
  go_enter Try.func6, Try.ntmps6
  go_upto_region 1 with fail
  generalize (((w.alloc (.cells #[.string ag, .string aa, .string au, .slice pa al.length qa] 26)).alloc (.cells #[.string bg, .string ba, .string bu, .slice pb bl.length qb] 26)).alloc (.cells #[.string cg, .string ca, .string cu, .slice pc cl.length qc] 26)) = w1 at hka hkb hkc HRa HRb HRc HB0 ⊢
  obtain ⟨YC, hYC⟩ : ∃ H1, H1 = w.heap.size + 1 + 1 := ⟨_, rfl⟩
  rw [← hYC] at hkc
  simp only [← hYC]
  obtain ⟨YB, hYB⟩ : ∃ H1, H1 = w.heap.size + 1 := ⟨_, rfl⟩
  rw [← hYB] at hkb
  simp only [← hYB]
  clear hYB hYC
  have HKa := Lib.hid hka
  obtain ⟨a0, a1, a2, a3⟩ := hka
  have HKb := Lib.hid hkb
  obtain ⟨b0, b1, b2, b3⟩ := hkb
  have HKc := Lib.hid hkc
  obtain ⟨c0, c1, c2, c3⟩ := hkc
  go_upto_region 2 with fail
  have hb12 : Below w1.heap.size w1 (w1.alloc (.cells #[.string ag, .string aa, .string au, .slice pa al.length qa, .string bg, .string ba, .string bu, .slice pb bl.length qb, .string cg, .string ca, .string cu, .slice pc cl.length qc] 26)) := (Below.refl _ _).alloc (Nat.le_refl _) _
  have hrow : (w1.alloc (.cells #[.string ag, .string aa, .string au, .slice pa al.length qa, .string bg, .string ba, .string bu, .slice pb bl.length qb, .string cg, .string ca, .string cu, .slice pc cl.length qc] 26)).heap[w1.heap.size]? = some (.cells #[.string ag, .string aa, .string au, .slice pa al.length qa, .string bg, .string ba, .string bu, .slice pb bl.length qb, .string cg, .string ca, .string cu, .slice pc cl.length qc] 26 (0, 0)) := heap_alloc_new w1 _
  have HB12 := Lib.hid hb12
  have HROW := Lib.hid hrow
  clear a0 a1 a2 a3 b0 b1 b2 b3 c0 c1 c2 c3 hb12 hrow
  generalize w1.alloc (.cells #[.string ag, .string aa, .string au, .slice pa al.length qa, .string bg, .string ba, .string bu, .slice pb bl.length qb, .string cg, .string ca, .string cu, .slice pc cl.length qc] 26) = w2 at HB12 HROW ⊢
  generalize w1.heap.size = D at HROW ⊢
  go_loopw [18] (fun i wr => (i = .int .i64 0 ∨ (i = .int .i64 1 ∧ LtMay ag aa au al) ∨ (i = .int .i64 2 ∧ LtMay ag aa au al ∧ LtMay bg ba bu bl) ∨ (i = .int .i64 3 ∧ LtMay ag aa au al ∧ LtMay bg ba bu bl ∧ LtMay cg ca cu cl)) ∧ Below w2.heap.size w2 wr) (fun i _ => 3 - (intOf i).toNat)
  case atStart => exact ⟨.inl rfl, Below.refl _ _⟩
  case round =>
    obtain ⟨hi, hb⟩ := hrel
    have HB := Lib.hid hb
    have HBW := Lib.hid (HB12.out.trans (hb.mono HB12.out.size))
    have hrw := (hb.block D (Array.getElem?_eq_some_iff.1 HROW.out).1).trans HROW.out
    have hcl : ∀ j, wr.cell? ⟨D, j, none⟩ = #[.string ag, .string aa, .string au, .slice pa al.length qa, .string bg, .string ba, .string bu, .slice pb bl.length qb, .string cg, .string ca, .string cu, .slice pc cl.length qc][j]? := fun j => cell_of_row wr D j _ _ (0, 0) hrw
    clear hb hrw
    rcases hi with rfl | ⟨rfl, HA⟩ | ⟨rfl, HA, HBB⟩ | ⟨rfl, HA, HBB, HC⟩
    · have d0 : wr.cell? ⟨D, 0, none⟩ = some (.string ag) := hcl 0
      have d1 : wr.cell? ⟨D, 1, none⟩ = some (.string aa) := hcl 1
      have d2 : wr.cell? ⟨D, 2, none⟩ = some (.string au) := hcl 2
      have d3 : wr.cell? ⟨D, 3, none⟩ = some (.slice pa al.length qa) := hcl 3
      clear hcl
      go_upto_region 4 with fail
      have hal : Below wr.heap.size wr (wr.alloc (.cells #[.string ag, .string aa, .string au, .slice pa al.length qa] 26)) := (Below.refl _ _).alloc (Nat.le_refl _) _
      have hnew := LkIn.new wr ag aa au (.slice pa al.length qa)
      have HB3 := Lib.hid (HB.out.trans (hal.mono HB.out.size))
      have HBW3 := Lib.hid (HBW.out.trans (hal.mono HBW.out.size))
      clear hal d0 d1 d2 d3
      generalize wr.alloc (.cells #[.string ag, .string aa, .string au, .slice pa al.length qa] 26) = w3 at hnew HB3 HBW3 ⊢
      generalize wr.heap.size = N at hnew ⊢
      have HNEW := Lib.hid hnew
      obtain ⟨x0, x1, x2, x3⟩ := hnew
      go_wp2_with fail
      refine (HLa.out _ (HRa.out.below HBW3.out (Nat.le_refl _))).mono ?_
      rintro e w4 ⟨bb, rfl, hl1, hb4⟩
      have HB4 := Lib.hid (HB3.out.trans (hb4.mono HB3.out.size))
      have HBW4 := Lib.hid (HBW3.out.trans (hb4.mono HBW3.out.size))
      have hk4 := HNEW.out.below hb4 (Nat.le_refl _)
      have HLT := Lib.hid hl1
      clear x0 x1 x2 x3 hl1 hb4
      cases bb
      · clear hk4
        go_wp2_with fail
        refine (HLV.out _).mono ?_
        rintro e wz ⟨rfl, hbz⟩
        have HZ := Lib.hid ((HB0.out.trans (HBW4.out.mono HB0.out.size)).trans (hbz.mono (HB0.out.trans (HBW4.out.mono HB0.out.size)).size))
        clear hbz
        go_wp2
        go_ret
        exact ⟨rfl, HZ.out⟩
      · obtain ⟨x0, x1, x2, x3⟩ := hk4
        obtain ⟨g1, g2, g3, g4, g5⟩ := light_okT (HLT.out (by simp))
        have hm := fun w' hr => refMay_any ag aa au g1 g2 g3 (.slice pa al.length qa) al g4 (by omega) w' hr
        generalize hM : mayLock ag aa au al = m at hm
        unfold lockV at hm
        have HM := Lib.hid hm
        have HMM := Lib.hid hM
        clear hm hM g1 g2 g3 g4 g5
        go_wp2_with fail
        refine (HM.out _ (HRa.out.below HBW4.out (Nat.le_refl _))).mono ?_
        rintro e w5 ⟨rfl, hb5⟩
        have HB5 := Lib.hid (HB4.out.trans (hb5.mono HB4.out.size))
        have HBW5 := Lib.hid (HBW4.out.trans (hb5.mono HBW4.out.size))
        clear x0 x1 x2 x3 hb5
        cases m
        · go_wp2_with fail
          refine (HLV.out _).mono ?_
          rintro e wz ⟨rfl, hbz⟩
          have HZ := Lib.hid ((HB0.out.trans (HBW5.out.mono HB0.out.size)).trans (hbz.mono (HB0.out.trans (HBW5.out.mono HB0.out.size)).size))
          clear hbz
          go_wp2
          go_ret
          exact ⟨rfl, HZ.out⟩
        · go_wp2
          go_roundw
          case rel => exact ⟨.inr (.inl ⟨rfl, ⟨HLT.out (by simp), HMM.out⟩⟩), HB5.out⟩
          case measure => simp [intOf]
    · have d0 : wr.cell? ⟨D, 4, none⟩ = some (.string bg) := hcl 4
      have d1 : wr.cell? ⟨D, 5, none⟩ = some (.string ba) := hcl 5
      have d2 : wr.cell? ⟨D, 6, none⟩ = some (.string bu) := hcl 6
      have d3 : wr.cell? ⟨D, 7, none⟩ = some (.slice pb bl.length qb) := hcl 7
      clear hcl
      go_upto_region 4 with fail
      have hal : Below wr.heap.size wr (wr.alloc (.cells #[.string bg, .string ba, .string bu, .slice pb bl.length qb] 26)) := (Below.refl _ _).alloc (Nat.le_refl _) _
      have hnew := LkIn.new wr bg ba bu (.slice pb bl.length qb)
      have HB3 := Lib.hid (HB.out.trans (hal.mono HB.out.size))
      have HBW3 := Lib.hid (HBW.out.trans (hal.mono HBW.out.size))
      clear hal d0 d1 d2 d3
      generalize wr.alloc (.cells #[.string bg, .string ba, .string bu, .slice pb bl.length qb] 26) = w3 at hnew HB3 HBW3 ⊢
      generalize wr.heap.size = N at hnew ⊢
      have HNEW := Lib.hid hnew
      obtain ⟨x0, x1, x2, x3⟩ := hnew
      go_wp2_with fail
      refine (HLb.out _ (HRb.out.below HBW3.out (Nat.le_refl _))).mono ?_
      rintro e w4 ⟨bb, rfl, hl1, hb4⟩
      have HB4 := Lib.hid (HB3.out.trans (hb4.mono HB3.out.size))
      have HBW4 := Lib.hid (HBW3.out.trans (hb4.mono HBW3.out.size))
      have hk4 := HNEW.out.below hb4 (Nat.le_refl _)
      have HLT := Lib.hid hl1
      clear x0 x1 x2 x3 hl1 hb4
      cases bb
      · clear hk4
        go_wp2_with fail
        refine (HLV.out _).mono ?_
        rintro e wz ⟨rfl, hbz⟩
        have HZ := Lib.hid ((HB0.out.trans (HBW4.out.mono HB0.out.size)).trans (hbz.mono (HB0.out.trans (HBW4.out.mono HB0.out.size)).size))
        clear hbz
        go_wp2
        go_ret
        exact ⟨rfl, HZ.out⟩
      · obtain ⟨x0, x1, x2, x3⟩ := hk4
        obtain ⟨g1, g2, g3, g4, g5⟩ := light_okT (HLT.out (by simp))
        have hm := fun w' hr => refMay_any bg ba bu g1 g2 g3 (.slice pb bl.length qb) bl g4 (by omega) w' hr
        generalize hM : mayLock bg ba bu bl = m at hm
        unfold lockV at hm
        have HM := Lib.hid hm
        have HMM := Lib.hid hM
        clear hm hM g1 g2 g3 g4 g5
        go_wp2_with fail
        refine (HM.out _ (HRb.out.below HBW4.out (Nat.le_refl _))).mono ?_
        rintro e w5 ⟨rfl, hb5⟩
        have HB5 := Lib.hid (HB4.out.trans (hb5.mono HB4.out.size))
        have HBW5 := Lib.hid (HBW4.out.trans (hb5.mono HBW4.out.size))
        clear x0 x1 x2 x3 hb5
        cases m
        · go_wp2_with fail
          refine (HLV.out _).mono ?_
          rintro e wz ⟨rfl, hbz⟩
          have HZ := Lib.hid ((HB0.out.trans (HBW5.out.mono HB0.out.size)).trans (hbz.mono (HB0.out.trans (HBW5.out.mono HB0.out.size)).size))
          clear hbz
          go_wp2
          go_ret
          exact ⟨rfl, HZ.out⟩
        · go_wp2
          go_roundw
          case rel => exact ⟨.inr (.inr (.inl ⟨rfl, HA, ⟨HLT.out (by simp), HMM.out⟩⟩)), HB5.out⟩
          case measure => simp [intOf]
    · have d0 : wr.cell? ⟨D, 8, none⟩ = some (.string cg) := hcl 8
      have d1 : wr.cell? ⟨D, 9, none⟩ = some (.string ca) := hcl 9
      have d2 : wr.cell? ⟨D, 10, none⟩ = some (.string cu) := hcl 10
      have d3 : wr.cell? ⟨D, 11, none⟩ = some (.slice pc cl.length qc) := hcl 11
      clear hcl
      go_upto_region 4 with fail
      have hal : Below wr.heap.size wr (wr.alloc (.cells #[.string cg, .string ca, .string cu, .slice pc cl.length qc] 26)) := (Below.refl _ _).alloc (Nat.le_refl _) _
      have hnew := LkIn.new wr cg ca cu (.slice pc cl.length qc)
      have HB3 := Lib.hid (HB.out.trans (hal.mono HB.out.size))
      have HBW3 := Lib.hid (HBW.out.trans (hal.mono HBW.out.size))
      clear hal d0 d1 d2 d3
      generalize wr.alloc (.cells #[.string cg, .string ca, .string cu, .slice pc cl.length qc] 26) = w3 at hnew HB3 HBW3 ⊢
      generalize wr.heap.size = N at hnew ⊢
      have HNEW := Lib.hid hnew
      obtain ⟨x0, x1, x2, x3⟩ := hnew
      go_wp2_with fail
      refine (HLc.out _ (HRc.out.below HBW3.out (Nat.le_refl _))).mono ?_
      rintro e w4 ⟨bb, rfl, hl1, hb4⟩
      have HB4 := Lib.hid (HB3.out.trans (hb4.mono HB3.out.size))
      have HBW4 := Lib.hid (HBW3.out.trans (hb4.mono HBW3.out.size))
      have hk4 := HNEW.out.below hb4 (Nat.le_refl _)
      have HLT := Lib.hid hl1
      clear x0 x1 x2 x3 hl1 hb4
      cases bb
      · clear hk4
        go_wp2_with fail
        refine (HLV.out _).mono ?_
        rintro e wz ⟨rfl, hbz⟩
        have HZ := Lib.hid ((HB0.out.trans (HBW4.out.mono HB0.out.size)).trans (hbz.mono (HB0.out.trans (HBW4.out.mono HB0.out.size)).size))
        clear hbz
        go_wp2
        go_ret
        exact ⟨rfl, HZ.out⟩
      · obtain ⟨x0, x1, x2, x3⟩ := hk4
        obtain ⟨g1, g2, g3, g4, g5⟩ := light_okT (HLT.out (by simp))
        have hm := fun w' hr => refMay_any cg ca cu g1 g2 g3 (.slice pc cl.length qc) cl g4 (by omega) w' hr
        generalize hM : mayLock cg ca cu cl = m at hm
        unfold lockV at hm
        have HM := Lib.hid hm
        have HMM := Lib.hid hM
        clear hm hM g1 g2 g3 g4 g5
        go_wp2_with fail
        refine (HM.out _ (HRc.out.below HBW4.out (Nat.le_refl _))).mono ?_
        rintro e w5 ⟨rfl, hb5⟩
        have HB5 := Lib.hid (HB4.out.trans (hb5.mono HB4.out.size))
        have HBW5 := Lib.hid (HBW4.out.trans (hb5.mono HBW4.out.size))
        clear x0 x1 x2 x3 hb5
        cases m
        · go_wp2_with fail
          refine (HLV.out _).mono ?_
          rintro e wz ⟨rfl, hbz⟩
          have HZ := Lib.hid ((HB0.out.trans (HBW5.out.mono HB0.out.size)).trans (hbz.mono (HB0.out.trans (HBW5.out.mono HB0.out.size)).size))
          clear hbz
          go_wp2
          go_ret
          exact ⟨rfl, HZ.out⟩
        · go_wp2
          go_roundw
          case rel => exact ⟨.inr (.inr (.inr ⟨rfl, HA, HBB, ⟨HLT.out (by simp), HMM.out⟩⟩)), HB5.out⟩
          case measure => simp [intOf]
    · clear hcl
      obtain ⟨pa1, pa2, pa3, pa4, pa5⟩ := light_okT HA.1
      obtain ⟨pb1, pb2, pb3, pb4, pb5⟩ := light_okT HBB.1
      obtain ⟨pc1, pc2, pc3, pc4, pc5⟩ := light_okT HC.1
      have oa := mayLock_ok HA.2
      have ob := mayLock_ok HBB.2
      have oc := mayLock_ok HC.2
      have hed1 := fun w' r1 r2 => Edits_any ag aa au pa1 pa2 pa3 bg ba bu pb1 pb2 pb3 (.slice pa al.length qa) (.slice pb bl.length qb) al bl pa4 pb4 (by omega) (by omega) w' r1 r2
      rw [HA.2, HBB.2, show editsL true true al bl = edits al bl from rfl] at hed1
      have hed2 := fun w' r1 r2 => Edits_any bg ba bu pb1 pb2 pb3 cg ca cu pc1 pc2 pc3 (.slice pb bl.length qb) (.slice pc cl.length qc) bl cl pb4 pc4 (by omega) (by omega) w' r1 r2
      rw [HBB.2, HC.2, show editsL true true bl cl = edits bl cl from rfl] at hed2
      have hed3 := fun w' r1 r2 => Edits_any ag aa au pa1 pa2 pa3 cg ca cu pc1 pc2 pc3 (.slice pa al.length qa) (.slice pc cl.length qc) al cl pa4 pc4 (by omega) (by omega) w' r1 r2
      rw [HA.2, HC.2, show editsL true true al cl = edits al cl from rfl] at hed3
      have n1 := edits_len al bl
      have n2 := edits_len bl cl
      have n3 := edits_len al cl
      have n4 := edits_len bl al
      have hj1 := fun v1 v2 w' r1 r2 => (Join_any v1 v2 (edits al bl) (edits bl cl) (by omega) (by omega) w' r1 r2).mono (JoinP.yes (joinOk_edits oa ob oc))
      rw [join_edits oa ob oc] at hj1
      have hj2 := fun v1 v2 w' r1 r2 => (Join_any v1 v2 (edits al bl) (edits bl al) (by omega) (by omega) w' r1 r2).mono (JoinP.yes (joinOk_edits oa ob oa))
      rw [join_edits oa ob oa, edits_self oa] at hj2
      have htu := fun v w' r => Turn_any v (edits al bl) (by omega) w' r
      have htp : ∀ w e w', TurnP (edits al bl) w e w' → ∃ v, e = .returned v ∧ RdE w' v (edits bl al) ∧ Below w.heap.size w w' := fun w e w' h => by
        obtain ⟨v, h1, h2, h3⟩ := h
        rw [turn_edits oa ob] at h2
        exact ⟨v, h1, h2, h3⟩
      have hse := fun v1 v2 w' r1 r2 => refSameE_any v1 v2 (edits al cl) (by omega) w' r1 r2
      unfold lockV at hed1 hed2 hed3
      generalize edits al bl = E1 at hed1 hj1 hj2 htu htp
      generalize edits bl cl = E2 at hed2 hj1
      generalize edits al cl = E3 at hed3 hj1 hse
      generalize edits bl al = E4 at hj2 htp
      have HED1 := Lib.hid hed1
      have HED2 := Lib.hid hed2
      have HED3 := Lib.hid hed3
      have HJ1 := Lib.hid hj1
      have HJ2 := Lib.hid hj2
      have HTU := Lib.hid htu
      have HTP := Lib.hid htp
      have HSE := Lib.hid hse
      clear hed1 hed2 hed3 hj1 hj2 htu htp hse n1 n2 n3 n4 oa ob oc HA HBB HC
      clear pa1 pa2 pa3 pa4 pa5
      clear pb1 pb2 pb3 pb4 pb5
      clear pc1 pc2 pc3 pc4 pc5
      have HRDa := Lib.hid (fun (w' : World) (hb : Below wr.heap.size wr w') => (HRa.out.below HBW.out (Nat.le_refl _)).below hb (Nat.le_refl _))
      have hla := HKa.out.below HBW.out (Nat.le_refl _)
      have HRDb := Lib.hid (fun (w' : World) (hb : Below wr.heap.size wr w') => (HRb.out.below HBW.out (Nat.le_refl _)).below hb (Nat.le_refl _))
      have hlb := HKb.out.below HBW.out (Nat.le_refl _)
      have HRDc := Lib.hid (fun (w' : World) (hb : Below wr.heap.size wr w') => (HRc.out.below HBW.out (Nat.le_refl _)).below hb (Nat.le_refl _))
      have hlc := HKc.out.below HBW.out (Nat.le_refl _)
      have HG := Lib.hid (fun (w' : World) (hb : Below wr.heap.size wr w') => show w'.cell? ⟨w.heap.size, 0, none⟩ = some (.string ag) ∧ w'.cell? ⟨w.heap.size, 1, none⟩ = some (.string aa) ∧ w'.cell? ⟨w.heap.size, 2, none⟩ = some (.string au) ∧ w'.cell? ⟨w.heap.size, 3, none⟩ = some (.slice pa al.length qa) ∧ w'.cell? ⟨YB, 0, none⟩ = some (.string bg) ∧ w'.cell? ⟨YB, 1, none⟩ = some (.string ba) ∧ w'.cell? ⟨YB, 2, none⟩ = some (.string bu) ∧ w'.cell? ⟨YB, 3, none⟩ = some (.slice pb bl.length qb) ∧ w'.cell? ⟨YC, 0, none⟩ = some (.string cg) ∧ w'.cell? ⟨YC, 1, none⟩ = some (.string ca) ∧ w'.cell? ⟨YC, 2, none⟩ = some (.string cu) ∧ w'.cell? ⟨YC, 3, none⟩ = some (.slice pc cl.length qc) ∧ Below wr.heap.size wr w' from
        have hc : ∀ {A : Addr} {x : Value}, wr.cell? A = some x → w'.cell? A = some x := fun hx => (hb.cell (World.block_lt_of_cell? wr _ hx)).trans hx
        ⟨hc hla.1, hc hla.2.1, hc hla.2.2.1, hc hla.2.2.2, hc hlb.1, hc hlb.2.1, hc hlb.2.2.1, hc hlb.2.2.2, hc hlc.1, hc hlc.2.1, hc hlc.2.2.1, hc hlc.2.2.2, hb⟩)
      clear hla hlb hlc
      go_upto_region 7 with fail
      refine wp_region_held_drew (S := (fun w' => w'.cell? ⟨w.heap.size, 0, none⟩ = some (.string ag) ∧ w'.cell? ⟨w.heap.size, 1, none⟩ = some (.string aa) ∧ w'.cell? ⟨w.heap.size, 2, none⟩ = some (.string au) ∧ w'.cell? ⟨w.heap.size, 3, none⟩ = some (.slice pa al.length qa) ∧ w'.cell? ⟨YB, 0, none⟩ = some (.string bg) ∧ w'.cell? ⟨YB, 1, none⟩ = some (.string ba) ∧ w'.cell? ⟨YB, 2, none⟩ = some (.string bu) ∧ w'.cell? ⟨YB, 3, none⟩ = some (.slice pb bl.length qb) ∧ w'.cell? ⟨YC, 0, none⟩ = some (.string cg) ∧ w'.cell? ⟨YC, 1, none⟩ = some (.string ca) ∧ w'.cell? ⟨YC, 2, none⟩ = some (.string cu) ∧ w'.cell? ⟨YC, 3, none⟩ = some (.slice pc cl.length qc) ∧ Below wr.heap.size wr w')) (by kernel_rfl) (by (try dsimp only); exact HG.out _ (Below.refl _ _).drew) (fun hHeld => ?_)
      have hHB := hHeld.2.2.2.2.2.2.2.2.2.2.2.2
      clear hHeld
      refine wpAnyH_take (i := 0) (v := ?_) (by (simp only [List.getElem?_toArray, List.getElem?_cons_succ, List.getElem?_cons_zero]; rfl)) (by kernel_rfl) (by kernel_rfl) (by kernel_rfl) (by intro _ _ _ h; exact h) (Or.inl ⟨by rfl, ?_⟩) (HG.out _ hHB) ?_
      rotate_left
      · (intro w hSw; (try dsimp only at hSw); go_simp; try (with_reducible rfl))
      simp only [Act.put, List.setIfInBounds_toArray, List.set_cons_zero, List.set_cons_succ]
      refine wpAnyH_take (i := 1) (v := ?_) (by (simp only [List.getElem?_toArray, List.getElem?_cons_succ, List.getElem?_cons_zero]; rfl)) (by kernel_rfl) (by kernel_rfl) (by kernel_rfl) (by intro _ _ _ h; exact h) (Or.inl ⟨by rfl, ?_⟩) (HG.out _ hHB) ?_
      rotate_left
      · (intro w hSw; (try dsimp only at hSw); go_simp; try (with_reducible rfl))
      simp only [Act.put, List.setIfInBounds_toArray, List.set_cons_zero, List.set_cons_succ]
      refine wpAnyH_take (i := 3) (v := ?_) (by (simp only [List.getElem?_toArray, List.getElem?_cons_succ, List.getElem?_cons_zero]; rfl)) (by kernel_rfl) (by kernel_rfl) (by kernel_rfl) (by intro _ _ _ h; exact h) (Or.inl ⟨by rfl, ?_⟩) (HG.out _ hHB) ?_
      rotate_left
      · (intro w hSw; (try dsimp only at hSw); go_simp; try (with_reducible rfl))
      simp only [Act.put, List.setIfInBounds_toArray, List.set_cons_zero, List.set_cons_succ]
      refine wpAnyH_take (i := 4) (v := ?_) (by (simp only [List.getElem?_toArray, List.getElem?_cons_succ, List.getElem?_cons_zero]; rfl)) (by kernel_rfl) (by kernel_rfl) (by kernel_rfl) (by intro _ _ _ h; exact h) (Or.inl ⟨by rfl, ?_⟩) (HG.out _ hHB) ?_
      rotate_left
      · (intro w hSw; (try dsimp only at hSw); go_simp; try (with_reducible rfl))
      simp only [Act.put, List.setIfInBounds_toArray, List.set_cons_zero, List.set_cons_succ]
      refine wpAnyH_ready (rs := [2]) (by kernel_rfl) (by simp) ?_
      refine AllReadyH.cons (by (simp only [List.getElem?_toArray, List.getElem?_cons_succ, List.getElem?_cons_zero]; rfl)) (fun K hK => ?_) AllReadyH.nil
      go_simp
      (go_at_call 10; (refine (HED1.out _ (HRDa.out _ hHB) (HRDb.out _ hHB)).mono ?_); rintro e wy ⟨v1, rfl, hr1, hbx⟩; go_wp2_with fail)
      have hHB := hHB.trans (hbx.mono hHB.size)
      refine hK.out _ _ (HG.out _ hHB) (fun hHeld => ?_)
      clear hK K hbx hHeld
      try simp only [Act.put, List.setIfInBounds_toArray, List.set_cons_zero, List.set_cons_succ]
      refine wpAnyH_ready (rs := [5]) (by kernel_rfl) (by simp) ?_
      refine AllReadyH.cons (by (simp only [List.getElem?_toArray, List.getElem?_cons_succ, List.getElem?_cons_zero]; rfl)) (fun K hK => ?_) AllReadyH.nil
      go_simp
      (go_at_call 10; (refine (HED2.out _ (HRDb.out _ hHB) (HRDc.out _ hHB)).mono ?_); rintro e wy ⟨v2, rfl, hr2, hbx⟩; go_wp2_with fail)
      have hr1 := hr1.below hbx (Nat.le_refl _)
      have hHB := hHB.trans (hbx.mono hHB.size)
      refine hK.out _ _ (HG.out _ hHB) (fun hHeld => ?_)
      clear hK K hbx hHeld
      try simp only [Act.put, List.setIfInBounds_toArray, List.set_cons_zero, List.set_cons_succ]
      refine wpAnyH_ready (rs := [6]) (by kernel_rfl) (by simp) ?_
      refine AllReadyH.cons (by (simp only [List.getElem?_toArray, List.getElem?_cons_succ, List.getElem?_cons_zero]; rfl)) (fun K hK => ?_) AllReadyH.nil
      go_simp
      (go_at_call 20; (refine (HJ1.out v1 v2 _ hr1 hr2).mono ?_); rintro e wy ⟨vj, rfl, hrj, hbx⟩; go_wp2_with fail)
      have hHB := hHB.trans (hbx.mono hHB.size)
      refine hK.out _ _ (HG.out _ hHB) (fun hHeld => ?_)
      clear hK K hbx hHeld
      try simp only [Act.put, List.setIfInBounds_toArray, List.set_cons_zero, List.set_cons_succ]
      refine wpAnyH_take (i := 7) (v := ?_) (by (simp only [List.getElem?_toArray, List.getElem?_cons_succ, List.getElem?_cons_zero]; rfl)) (by kernel_rfl) (by kernel_rfl) (by kernel_rfl) (by intro _ _ _ h; exact h) (Or.inl ⟨by rfl, ?_⟩) (HG.out _ hHB) ?_
      rotate_left
      · (intro w hSw; (try dsimp only at hSw); go_simp; try (with_reducible rfl))
      simp only [Act.put, List.setIfInBounds_toArray, List.set_cons_zero, List.set_cons_succ]
      refine wpAnyH_take (i := 8) (v := ?_) (by (simp only [List.getElem?_toArray, List.getElem?_cons_succ, List.getElem?_cons_zero]; rfl)) (by kernel_rfl) (by kernel_rfl) (by kernel_rfl) (by intro _ _ _ h; exact h) (Or.inl ⟨by rfl, ?_⟩) (HG.out _ hHB) ?_
      rotate_left
      · (intro w hSw; (try dsimp only at hSw); go_simp; try (with_reducible rfl))
      simp only [Act.put, List.setIfInBounds_toArray, List.set_cons_zero, List.set_cons_succ]
      refine wpAnyH_take (i := 9) (v := ?_) (by (simp only [List.getElem?_toArray, List.getElem?_cons_succ, List.getElem?_cons_zero]; rfl)) (by kernel_rfl) (by kernel_rfl) (by kernel_rfl) (by intro _ _ _ h; exact h) (Or.inl ⟨by rfl, ?_⟩) (HG.out _ hHB) ?_
      rotate_left
      · (intro w hSw; (try dsimp only at hSw); go_simp; try (with_reducible rfl))
      simp only [Act.put, List.setIfInBounds_toArray, List.set_cons_zero, List.set_cons_succ]
      refine wpAnyH_take (i := 10) (v := ?_) (by (simp only [List.getElem?_toArray, List.getElem?_cons_succ, List.getElem?_cons_zero]; rfl)) (by kernel_rfl) (by kernel_rfl) (by kernel_rfl) (by intro _ _ _ h; exact h) (Or.inl ⟨by rfl, ?_⟩) (HG.out _ hHB) ?_
      rotate_left
      · (intro w hSw; (try dsimp only at hSw); go_simp; try (with_reducible rfl))
      simp only [Act.put, List.setIfInBounds_toArray, List.set_cons_zero, List.set_cons_succ]
      refine wpAnyH_take (i := 11) (v := ?_) (by (simp only [List.getElem?_toArray, List.getElem?_cons_succ, List.getElem?_cons_zero]; rfl)) (by kernel_rfl) (by kernel_rfl) (by kernel_rfl) (by intro _ _ _ h; exact h) (Or.inl ⟨by rfl, ?_⟩) (HG.out _ hHB) ?_
      rotate_left
      · (intro w hSw; (try dsimp only at hSw); go_simp; try (with_reducible rfl))
      simp only [Act.put, List.setIfInBounds_toArray, List.set_cons_zero, List.set_cons_succ]
      refine wpAnyH_done (by kernel_rfl) ?_ _
      clear hr1 hr2
      go_upto_region 8 with fail
      refine wp_region_held_drew (S := (fun w' => w'.cell? ⟨w.heap.size, 0, none⟩ = some (.string ag) ∧ w'.cell? ⟨w.heap.size, 1, none⟩ = some (.string aa) ∧ w'.cell? ⟨w.heap.size, 2, none⟩ = some (.string au) ∧ w'.cell? ⟨w.heap.size, 3, none⟩ = some (.slice pa al.length qa) ∧ w'.cell? ⟨YB, 0, none⟩ = some (.string bg) ∧ w'.cell? ⟨YB, 1, none⟩ = some (.string ba) ∧ w'.cell? ⟨YB, 2, none⟩ = some (.string bu) ∧ w'.cell? ⟨YB, 3, none⟩ = some (.slice pb bl.length qb) ∧ w'.cell? ⟨YC, 0, none⟩ = some (.string cg) ∧ w'.cell? ⟨YC, 1, none⟩ = some (.string ca) ∧ w'.cell? ⟨YC, 2, none⟩ = some (.string cu) ∧ w'.cell? ⟨YC, 3, none⟩ = some (.slice pc cl.length qc) ∧ Below wr.heap.size wr w')) (by kernel_rfl) (by (try dsimp only); exact HG.out _ hHB.drew) (fun hHeld => ?_)
      have hrj := hrj.below (Below.refl _ _).drew (Nat.le_refl _)
      have hHB := hHeld.2.2.2.2.2.2.2.2.2.2.2.2
      clear hHeld
      refine wpAnyH_take (i := 0) (v := ?_) (by (simp only [List.getElem?_toArray, List.getElem?_cons_succ, List.getElem?_cons_zero]; rfl)) (by kernel_rfl) (by kernel_rfl) (by kernel_rfl) (by intro _ _ _ h; exact h) (Or.inl ⟨by rfl, ?_⟩) (HG.out _ hHB) ?_
      rotate_left
      · (intro w hSw; (try dsimp only at hSw); go_simp; try (with_reducible rfl))
      simp only [Act.put, List.setIfInBounds_toArray, List.set_cons_zero, List.set_cons_succ]
      refine wpAnyH_take (i := 1) (v := ?_) (by (simp only [List.getElem?_toArray, List.getElem?_cons_succ, List.getElem?_cons_zero]; rfl)) (by kernel_rfl) (by kernel_rfl) (by kernel_rfl) (by intro _ _ _ h; exact h) (Or.inl ⟨by rfl, ?_⟩) (HG.out _ hHB) ?_
      rotate_left
      · (intro w hSw; (try dsimp only at hSw); go_simp; try (with_reducible rfl))
      simp only [Act.put, List.setIfInBounds_toArray, List.set_cons_zero, List.set_cons_succ]
      refine wpAnyH_take (i := 3) (v := ?_) (by (simp only [List.getElem?_toArray, List.getElem?_cons_succ, List.getElem?_cons_zero]; rfl)) (by kernel_rfl) (by kernel_rfl) (by kernel_rfl) (by intro _ _ _ h; exact h) (Or.inl ⟨by rfl, ?_⟩) (HG.out _ hHB) ?_
      rotate_left
      · (intro w hSw; (try dsimp only at hSw); go_simp; try (with_reducible rfl))
      simp only [Act.put, List.setIfInBounds_toArray, List.set_cons_zero, List.set_cons_succ]
      refine wpAnyH_take (i := 4) (v := ?_) (by (simp only [List.getElem?_toArray, List.getElem?_cons_succ, List.getElem?_cons_zero]; rfl)) (by kernel_rfl) (by kernel_rfl) (by kernel_rfl) (by intro _ _ _ h; exact h) (Or.inl ⟨by rfl, ?_⟩) (HG.out _ hHB) ?_
      rotate_left
      · (intro w hSw; (try dsimp only at hSw); go_simp; try (with_reducible rfl))
      simp only [Act.put, List.setIfInBounds_toArray, List.set_cons_zero, List.set_cons_succ]
      refine wpAnyH_ready (rs := [2]) (by kernel_rfl) (by simp) ?_
      refine AllReadyH.cons (by (simp only [List.getElem?_toArray, List.getElem?_cons_succ, List.getElem?_cons_zero]; rfl)) (fun K hK => ?_) AllReadyH.nil
      go_simp
      (go_at_call 10; (refine (HED1.out _ (HRDa.out _ hHB) (HRDb.out _ hHB)).mono ?_); rintro e wy ⟨v3, rfl, hr3, hbx⟩; go_wp2_with fail)
      have hrj := hrj.below hbx (Nat.le_refl _)
      have hHB := hHB.trans (hbx.mono hHB.size)
      refine hK.out _ _ (HG.out _ hHB) (fun hHeld => ?_)
      clear hK K hbx hHeld
      try simp only [Act.put, List.setIfInBounds_toArray, List.set_cons_zero, List.set_cons_succ]
      refine wpAnyH_ready (rs := [5]) (by kernel_rfl) (by simp) ?_
      refine AllReadyH.cons (by (simp only [List.getElem?_toArray, List.getElem?_cons_succ, List.getElem?_cons_zero]; rfl)) (fun K hK => ?_) AllReadyH.nil
      go_simp
      (go_at_call 10; (refine (HED1.out _ (HRDa.out _ hHB) (HRDb.out _ hHB)).mono ?_); rintro e wy ⟨v4, rfl, hr4, hbx⟩; go_wp2_with fail)
      have hrj := hrj.below hbx (Nat.le_refl _)
      have hr3 := hr3.below hbx (Nat.le_refl _)
      have hHB := hHB.trans (hbx.mono hHB.size)
      refine hK.out _ _ (HG.out _ hHB) (fun hHeld => ?_)
      clear hK K hbx hHeld
      try simp only [Act.put, List.setIfInBounds_toArray, List.set_cons_zero, List.set_cons_succ]
      refine wpAnyH_ready (rs := [6]) (by kernel_rfl) (by simp) ?_
      refine AllReadyH.cons (by (simp only [List.getElem?_toArray, List.getElem?_cons_succ, List.getElem?_cons_zero]; rfl)) (fun K hK => ?_) AllReadyH.nil
      go_simp
      (go_at_call 19; (refine (HTU.out v4 _ hr4).mono ?_); intro e wy ht; obtain ⟨vt, rfl, hrt, hbx⟩ := HTP.out _ _ _ ht; clear ht; go_wp2_with fail)
      have hrj := hrj.below hbx (Nat.le_refl _)
      have hr3 := hr3.below hbx (Nat.le_refl _)
      have hHB := hHB.trans (hbx.mono hHB.size)
      refine hK.out _ _ (HG.out _ hHB) (fun hHeld => ?_)
      clear hK K hbx hHeld
      try simp only [Act.put, List.setIfInBounds_toArray, List.set_cons_zero, List.set_cons_succ]
      refine wpAnyH_ready (rs := [7]) (by kernel_rfl) (by simp) ?_
      refine AllReadyH.cons (by (simp only [List.getElem?_toArray, List.getElem?_cons_succ, List.getElem?_cons_zero]; rfl)) (fun K hK => ?_) AllReadyH.nil
      go_simp
      (go_at_call 20; (refine (HJ2.out v3 vt _ hr3 hrt).mono ?_); rintro e wy ⟨vm, rfl, hrm, hbx⟩; go_wp2_with fail)
      have hrj := hrj.below hbx (Nat.le_refl _)
      have hHB := hHB.trans (hbx.mono hHB.size)
      refine hK.out _ _ (HG.out _ hHB) (fun hHeld => ?_)
      clear hK K hbx hHeld
      try simp only [Act.put, List.setIfInBounds_toArray, List.set_cons_zero, List.set_cons_succ]
      refine wpAnyH_take (i := 8) (v := ?_) (by (simp only [List.getElem?_toArray, List.getElem?_cons_succ, List.getElem?_cons_zero]; rfl)) (by kernel_rfl) (by kernel_rfl) (by kernel_rfl) (by intro _ _ _ h; exact h) (Or.inl ⟨by rfl, ?_⟩) (HG.out _ hHB) ?_
      rotate_left
      · (intro w hSw; (try dsimp only at hSw); go_simp; try (with_reducible rfl))
      simp only [Act.put, List.setIfInBounds_toArray, List.set_cons_zero, List.set_cons_succ]
      refine wpAnyH_take (i := 9) (v := ?_) (by (simp only [List.getElem?_toArray, List.getElem?_cons_succ, List.getElem?_cons_zero]; rfl)) (by kernel_rfl) (by kernel_rfl) (by kernel_rfl) (by intro _ _ _ h; exact h) (Or.inl ⟨by rfl, ?_⟩) (HG.out _ hHB) ?_
      rotate_left
      · (intro w hSw; (try dsimp only at hSw); go_simp; try (with_reducible rfl))
      simp only [Act.put, List.setIfInBounds_toArray, List.set_cons_zero, List.set_cons_succ]
      refine wpAnyH_take (i := 10) (v := ?_) (by (simp only [List.getElem?_toArray, List.getElem?_cons_succ, List.getElem?_cons_zero]; rfl)) (by kernel_rfl) (by kernel_rfl) (by kernel_rfl) (by intro _ _ _ h; exact h) (Or.inl ⟨by rfl, ?_⟩) (HG.out _ hHB) ?_
      rotate_left
      · (intro w hSw; (try dsimp only at hSw); go_simp; try (with_reducible rfl))
      simp only [Act.put, List.setIfInBounds_toArray, List.set_cons_zero, List.set_cons_succ]
      refine wpAnyH_take (i := 11) (v := ?_) (by (simp only [List.getElem?_toArray, List.getElem?_cons_succ, List.getElem?_cons_zero]; rfl)) (by kernel_rfl) (by kernel_rfl) (by kernel_rfl) (by intro _ _ _ h; exact h) (Or.inl ⟨by rfl, ?_⟩) (HG.out _ hHB) ?_
      rotate_left
      · (intro w hSw; (try dsimp only at hSw); go_simp; try (with_reducible rfl))
      simp only [Act.put, List.setIfInBounds_toArray, List.set_cons_zero, List.set_cons_succ]
      refine wpAnyH_take (i := 12) (v := ?_) (by (simp only [List.getElem?_toArray, List.getElem?_cons_succ, List.getElem?_cons_zero]; rfl)) (by kernel_rfl) (by kernel_rfl) (by kernel_rfl) (by intro _ _ _ h; exact h) (Or.inl ⟨by rfl, ?_⟩) (HG.out _ hHB) ?_
      rotate_left
      · (intro w hSw; (try dsimp only at hSw); go_simp; try (with_reducible rfl))
      simp only [Act.put, List.setIfInBounds_toArray, List.set_cons_zero, List.set_cons_succ]
      refine wpAnyH_done (by kernel_rfl) ?_ _
      obtain ⟨ma, mc, rfl⟩ := hrm.shape
      clear hr3 hr4 hrt hrm
      obtain ⟨vja, vjc, rfl⟩ := hrj.shape
      have HRJ := Lib.hid hrj
      have HHB := Lib.hid hHB
      obtain ⟨x0, x1, x2, x3, x4, x5, x6, x7, x8, x9, x10, x11, _⟩ := HG.out _ hHB
      clear hrj hHB
      go_wp2_with fail
      refine (HED3.out _ (HRDa.out _ HHB.out) (HRDc.out _ HHB.out)).mono ?_
      rintro e wz ⟨v6, rfl, hr6, hbz⟩
      have HBZ := Lib.hid (HHB.out.trans (hbz.mono HHB.out.size))
      have HRJ6 := Lib.hid (HRJ.out.below hbz (Nat.le_refl _))
      have HR6 := Lib.hid hr6
      obtain ⟨v6a, v6c, rfl⟩ := hr6.shape
      clear hr6 hbz x0 x1 x2 x3 x4 x5 x6 x7 x8 x9 x10 x11
      go_wp2_with fail
      refine (HSE.out _ _ _ HRJ6.out HR6.out).mono ?_
      rintro e wu ⟨rfl, hbu⟩
      have HBU := Lib.hid (HBZ.out.trans (hbu.mono HBZ.out.size))
      clear hbu
      go_wp2_with fail
      refine (HLV.out _).mono ?_
      rintro e wv ⟨rfl, hbv⟩
      have HFIN := Lib.hid (HBW.out.trans ((HBU.out.trans (hbv.mono HBU.out.size)).mono HBW.out.size))
      clear hbv
      go_wp2
      go_ret
      exact ⟨rfl, HB0.out.trans (HFIN.out.mono HB0.out.size)⟩
end Go.Proofs.Ytoibanffaebllaa
