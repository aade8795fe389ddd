/-
  Layer 24: which locks may be: contracts of lock.comparePins, mayPin, May. Own work.
-/
import Derived.Test.YtoibanffaebllaaMem24
import Derived.Deep.RegionHeld3
import Derived.WalkLawsBesides
import Derived.Deep.Cut
import Derived.Deep.CutRange
import Derived.Deep.QuietTactic
import Derived.BigQuiet
import Derived.IntWalk
import Derived.WalkSpells
import Derived.Outline
namespace Go.Proofs.Ytoibanffaebllaa
set_option linter.unusedVariables false
set_option linter.unusedSimpArgs false
open Go.RowKit

set_option maxHeartbeats 1000000 in
theorem comparePins_any (p q : Pn) (w : World) :
    Calls Try.prog 57 #[pnV p, pnV q] w fun e w' => e = .returned (.int .i64 (kcmp p.key q.key)) ∧ Below w.heap.size w w' := by
  have hc := fun w => Compare6_any p.key q.key w
  unfold K4.val keyV Pn.key at hc
  have HK := Lib.hid (show kcmp p.key q.key = kcmp ⟨p.g, p.a, p.t, p.c⟩ ⟨q.g, q.a, q.t, q.c⟩ from rfl)
  generalize kcmp ⟨p.g, p.a, p.t, p.c⟩ ⟨q.g, q.a, q.t, q.c⟩ = n at hc HK
  have HC := Lib.hid hc
  clear hc
  obtain ⟨pg, pa, pt, pc, pv, ps⟩ := p
  obtain ⟨qg, qa, qt, qc, qv, qs⟩ := q
  unfold pnV
  go_enter Try.func57, Try.ntmps57
  go_wp2_with fail
  refine (HC.out _).mono ?_
  rintro e w2 ⟨rfl, hb2⟩
  have HB := Lib.hid ((((Below.refl w.heap.size w).alloc (Nat.le_refl _) _).alloc (by simp) _).trans (hb2.mono (by simp; omega)))
  clear hb2
  go_wp2
  go_ret
  exact ⟨ret_int HK.out.symm, HB.out⟩
theorem mayAt_zero {l : List Pn} {p : Pn} (h : l[0]? = some p) : mayAt l 0 = mayP p := by unfold mayAt; rw [h]; simp
theorem mayAt_succ {l : List Pn} {i : Nat} {p q : Pn} (h : l[i + 1]? = some p) (hq : l[i]? = some q) : mayAt l (i + 1) = (decide (kcmp q.key p.key < 0) && mayP p) := by
  unfold mayAt
  rw [h]
  simp [hq, prevB]
theorem keep12p {w1 w2 W2 : World} {A0 A1 A2 A3 A4 A5 B0 B1 B2 B3 B4 B5 : Addr} {x0 x1 x2 x3 x4 x5 y0 y1 y2 y3 y4 y5 : Value} (h : w1.cell? A0 = some x0 ∧ w1.cell? A1 = some x1 ∧ w1.cell? A2 = some x2 ∧ w1.cell? A3 = some x3 ∧ w1.cell? A4 = some x4 ∧ w1.cell? A5 = some x5 ∧ w1.cell? B0 = some y0 ∧ w1.cell? B1 = some y1 ∧ w1.cell? B2 = some y2 ∧ w1.cell? B3 = some y3 ∧ w1.cell? B4 = some y4 ∧ w1.cell? B5 = some y5 ∧ Below W2.heap.size W2 w1) (hb : Below w1.heap.size w1 w2) :
    w2.cell? A0 = some x0 ∧ w2.cell? A1 = some x1 ∧ w2.cell? A2 = some x2 ∧ w2.cell? A3 = some x3 ∧ w2.cell? A4 = some x4 ∧ w2.cell? A5 = some x5 ∧ w2.cell? B0 = some y0 ∧ w2.cell? B1 = some y1 ∧ w2.cell? B2 = some y2 ∧ w2.cell? B3 = some y3 ∧ w2.cell? B4 = some y4 ∧ w2.cell? B5 = some y5 ∧ Below W2.heap.size W2 w2 := by
  obtain ⟨h0, h1, h2, h3, h4, h5, h6, h7, h8, h9, h10, h11, h12⟩ := h
  have hc : ∀ {A : Addr} {x : Value}, w1.cell? A = some x → w2.cell? A = some x := fun hx => (hb.cell (World.block_lt_of_cell? w1 _ hx)).trans hx
  exact ⟨hc h0, hc h1, hc h2, hc h3, hc h4, hc h5, hc h6, hc h7, hc h8, hc h9, hc h10, hc h11, h12.trans (hb.mono h12.size)⟩
theorem keep12pd {w1 W2 : World} {A0 A1 A2 A3 A4 A5 B0 B1 B2 B3 B4 B5 : Addr} {x0 x1 x2 x3 x4 x5 y0 y1 y2 y3 y4 y5 : Value} (h : w1.cell? A0 = some x0 ∧ w1.cell? A1 = some x1 ∧ w1.cell? A2 = some x2 ∧ w1.cell? A3 = some x3 ∧ w1.cell? A4 = some x4 ∧ w1.cell? A5 = some x5 ∧ w1.cell? B0 = some y0 ∧ w1.cell? B1 = some y1 ∧ w1.cell? B2 = some y2 ∧ w1.cell? B3 = some y3 ∧ w1.cell? B4 = some y4 ∧ w1.cell? B5 = some y5 ∧ Below W2.heap.size W2 w1) :
    w1.drew.cell? A0 = some x0 ∧ w1.drew.cell? A1 = some x1 ∧ w1.drew.cell? A2 = some x2 ∧ w1.drew.cell? A3 = some x3 ∧ w1.drew.cell? A4 = some x4 ∧ w1.drew.cell? A5 = some x5 ∧ w1.drew.cell? B0 = some y0 ∧ w1.drew.cell? B1 = some y1 ∧ w1.drew.cell? B2 = some y2 ∧ w1.drew.cell? B3 = some y3 ∧ w1.drew.cell? B4 = some y4 ∧ w1.drew.cell? B5 = some y5 ∧ Below W2.heap.size W2 w1.drew := by
  obtain ⟨h0, h1, h2, h3, h4, h5, h6, h7, h8, h9, h10, h11, h12⟩ := h
  exact ⟨h0, h1, h2, h3, h4, h5, h6, h7, h8, h9, h10, h11, h12.drew⟩
/-- a pin in a variable of its own -/
def PinIn (w : World) (b : Nat) (p : Pn) : Prop :=
  w.cell? ⟨b, 0, none⟩ = some (.string p.g) ∧ w.cell? ⟨b, 1, none⟩ = some (.string p.a) ∧ w.cell? ⟨b, 2, none⟩ = some (.string p.t) ∧ w.cell? ⟨b, 3, none⟩ = some (.string p.c) ∧ w.cell? ⟨b, 4, none⟩ = some (.string p.v) ∧ w.cell? ⟨b, 5, none⟩ = some (.int .i64 p.sc)
theorem PinIn.new (w : World) (p : Pn) : PinIn (w.alloc (.cells #[.string p.g, .string p.a, .string p.t, .string p.c, .string p.v, .int .i64 p.sc] 48)) w.heap.size p := by
  refine ⟨?_, ?_, ?_, ?_, ?_, ?_⟩ <;> simp [go_sem]
theorem PinIn.below {w w' : World} {b B : Nat} {p : Pn} (h : PinIn w b p) (hb : Below B w w') (hB : w.heap.size ≤ B) : PinIn w' b p := by
  obtain ⟨h0, h1, h2, h3, h4, h5⟩ := h
  have hc : ∀ {A : Addr} {x : Value}, w.cell? A = some x → w'.cell? A = some x := fun hx => (hb.cell (Nat.lt_of_lt_of_le (World.block_lt_of_cell? w _ hx) hB)).trans hx
  exact ⟨hc h0, hc h1, hc h2, hc h3, hc h4, hc h5⟩
set_option maxRecDepth 100000 in
set_option maxHeartbeats 2000000 in
theorem mayPin_any (pv : Value) (l : List Pn) (i : Nat) (p : Pn) (hp : l[i]? = some p) (hok : okP p) (w : World) (hr : RdN w pv l) :
    Calls Try.prog 46 #[pv, .int .i64 i] w fun e w' => e = .returned (.bool (mayAt l i)) ∧ Below w.heap.size w w' := by
  obtain ⟨pa, pc, rfl⟩ := hr.shape
  obtain ⟨b, rfl, _, hl1, hl2, hc⟩ := hr.elem hp
  have hil : i < l.length := (List.getElem?_eq_some_iff.1 hp).1
  have hilI : (i : Int) < l.length := by omega
  obtain ⟨I, hI⟩ : ∃ I : Int, I = (i : Int) := ⟨_, rfl⟩
  have hIt : I.toNat = i := by omega
  have hI0 : (0 : Int) ≤ I := by omega
  have hI1 : I < l.length := by omega
  have hat := RdN.at hc hp (Below.refl w.heap.size w) (Nat.le_refl _)
  rw [← hIt] at hat
  obtain ⟨k0, k1, k2, k3, k4, k5⟩ := hat
  rw [← hI]
  have hmk := fun w => MayKey_any p.g p.a p.t p.c hok.1 hok.2.1 hok.2.2.1 hok.2.2.2.1 w
  have hmv := fun w => MayVer_any p.v hok.2.2.2.2 w
  have hmp : mayP p = (mayKey p.g p.a p.t p.c && mayVer p.v && decide (1 ≤ p.sc) && decide (p.sc ≤ 5)) := rfl
  unfold keyV at hmk
  generalize mayKey p.g p.a p.t p.c = bk at hmk hmp
  generalize mayVer p.v = bv at hmv hmp
  have HMK := Lib.hid hmk
  have HMV := Lib.hid hmv
  have HMP := Lib.hid hmp
  have HNEW := Lib.hid (PinIn.new w p)
  have hb1 : Below w.heap.size w (w.alloc (.cells #[.string p.g, .string p.a, .string p.t, .string p.c, .string p.v, .int .i64 p.sc] 48)) := (Below.refl w.heap.size w).alloc (Nat.le_refl _) _
  have HB1 := Lib.hid hb1
  have HCELLS := Lib.hid hc
  clear hmk hmv hmp hb1 hc hr
  have hcur : ∃ W : Bool, (mayAt l i = (W && mayP p)) ∧ ((i = 0 ∧ W = true) ∨ ∃ j q, i = j + 1 ∧ l[j]? = some q ∧ W = decide (kcmp q.key p.key < 0)) := by
    match i, hp with
    | 0, hp => exact ⟨true, by rw [mayAt_zero hp]; simp, .inl ⟨rfl, rfl⟩⟩
    | j + 1, hp =>
      obtain ⟨q, hq⟩ : ∃ q, l[j]? = some q := ⟨_, List.getElem?_eq_getElem (by omega)⟩
      exact ⟨_, mayAt_succ hp hq, .inr ⟨j, q, rfl, hq, rfl⟩⟩
  obtain ⟨W, hW, hcase⟩ := hcur
  have HW := Lib.hid hW
  have HI := Lib.hid hI
  have hn : (i = 0 ∧ decide (0 < I) = false) ∨ (0 < i ∧ decide (0 < I) = true) := by
    rcases Nat.eq_zero_or_pos i with h | h
    · exact .inl ⟨h, by simp; omega⟩
    · exact .inr ⟨h, by simp; omega⟩
  clear hW hI hIt
  go_enter Try.func46, Try.ntmps46
  go_upto_region 2 with fail
  generalize hw1 : w.alloc (.cells #[.string p.g, .string p.a, .string p.t, .string p.c, .string p.v, .int .i64 p.sc] 48) = w1 at HNEW HB1 ⊢
  go_cut [21] from 6 to 20 (fun t wx => t = .bool (!W) ∧ Below w1.heap.size w1 wx)
  case first =>
    rcases hcase with ⟨rfl, rfl⟩ | ⟨j, q, rfl, hq, rfl⟩
    · have hg : decide (0 < I) = false := by rcases hn with ⟨_, h⟩ | ⟨h, _⟩; exact h; omega
      have HB := Lib.hid (Below.refl w1.heap.size w1)
      clear k0 k1 k2 k3 k4 k5 hn
      go_quiet (fail)
      go_wp2_with fail
      go_meet
      exact ⟨rfl, below_drewN HB.out _⟩
    · have hq0 := RdN.at HCELLS.out hq HB1.out (Nat.le_refl _)
      have hjI : (j : Int) < l.length := by omega
      obtain ⟨c0, c1, c2, c3, c4, c5⟩ := hq0
      obtain ⟨y0, y1, y2, y3, y4, y5⟩ := HNEW.out
      have hcp := fun w => comparePins_any q p w
      generalize hkn : kcmp q.key p.key = n at hcp
      have HN := Lib.hid hkn
      clear hkn
      unfold pnV at hcp
      have HCP := Lib.hid hcp
      have hb1 := Below.refl w1.heap.size w1
      have hg : decide (0 < I) = true := by rcases hn with ⟨h, _⟩ | ⟨_, h⟩; omega; exact h
      have hI2 : IntKind.i64.wrap (I - 1) = (j : Int) := by have := HI.out; rw [IntWalk.i64_in _ (by omega)]; omega
      clear hcp k0 k1 k2 k3 k4 k5 hilI hn
      go_region_held3 (fun w' => w'.cell? (b.add (j * 6)) = some (.string q.g) ∧ w'.cell? ⟨(b.add (j * 6)).block, (b.add (j * 6)).off + 1, none⟩ = some (.string q.a) ∧ w'.cell? ⟨(b.add (j * 6)).block, (b.add (j * 6)).off + 2, none⟩ = some (.string q.t) ∧ w'.cell? ⟨(b.add (j * 6)).block, (b.add (j * 6)).off + 3, none⟩ = some (.string q.c) ∧ w'.cell? ⟨(b.add (j * 6)).block, (b.add (j * 6)).off + 4, none⟩ = some (.string q.v) ∧ w'.cell? ⟨(b.add (j * 6)).block, (b.add (j * 6)).off + 5, none⟩ = some (.int .i64 q.sc) ∧ w'.cell? ⟨w.heap.size, 0, none⟩ = some (.string p.g) ∧ w'.cell? ⟨w.heap.size, 1, none⟩ = some (.string p.a) ∧ w'.cell? ⟨w.heap.size, 2, none⟩ = some (.string p.t) ∧ w'.cell? ⟨w.heap.size, 3, none⟩ = some (.string p.c) ∧ w'.cell? ⟨w.heap.size, 4, none⟩ = some (.string p.v) ∧ w'.cell? ⟨w.heap.size, 5, none⟩ = some (.int .i64 p.sc) ∧ Below w1.heap.size w1 w')
        (first | with_reducible exact keep12pd ⟨c0, c1, c2, c3, c4, c5, y0, y1, y2, y3, y4, y5, hb1⟩ | with_reducible exact keep12p (by assumption) (by assumption))
        (first | (go_at_call 57; with_reducible refine (HCP.out _).mono ?_; rintro e w2 ⟨rfl, hb2⟩))
      rename_i hH
      have HH := Lib.hid hH.2.2.2.2.2.2.2.2.2.2.2.2
      clear hH
      go_wp2_with fail
      go_meet
      exact ⟨by rw [HN.out]; congr 1; rw [Bool.eq_iff_iff]; simp, HH.out⟩
  case rest =>
    obtain ⟨rfl, hbc⟩ := hcut
    obtain ⟨y0, y1, y2, y3, y4, y5⟩ := HNEW.out.below hbc (Nat.le_refl _)
    have HBC := Lib.hid (HB1.out.trans (hbc.mono HB1.out.size))
    clear hbc k0 k1 k2 k3 k4 k5 hcase hn
    cases W
    · have HR := Lib.hid (HW.out.trans (Bool.false_and _))
      go_wp2
      go_ret
      exact ⟨ret_bool HR.out.symm, HBC.out⟩
    have HR := Lib.hid (HW.out.trans (Bool.true_and _))
    cases bk
    · go_wp2_with fail
      refine (HMK.out _).mono ?_
      rintro e w2 ⟨rfl, hb2⟩
      have HB2 := Lib.hid (HBC.out.trans (hb2.mono HBC.out.size))
      clear hb2
      go_wp2
      go_ret
      exact ⟨ret_bool (by rw [HR.out, HMP.out]; simp), HB2.out⟩
    cases bv
    · go_wp2_with fail
      refine (HMK.out _).mono ?_
      rintro e w2 ⟨rfl, hb2⟩
      have HB2 := Lib.hid (HBC.out.trans (hb2.mono HBC.out.size))
      have k4 := below_cell hb2 (World.block_lt_of_cell? wc _ y4) y4
      clear hb2
      go_wp2_with fail
      refine (HMV.out _).mono ?_
      rintro e w3 ⟨rfl, rfl⟩
      go_wp2
      go_ret
      exact ⟨ret_bool (by rw [HR.out, HMP.out]; simp), HB2.out⟩
    · go_wp2_with fail
      refine (HMK.out _).mono ?_
      rintro e w2 ⟨rfl, hb2⟩
      have HB2 := Lib.hid (HBC.out.trans (hb2.mono HBC.out.size))
      have k4 := below_cell hb2 (World.block_lt_of_cell? wc _ y4) y4
      have k5 := below_cell hb2 (World.block_lt_of_cell? wc _ y5) y5
      clear hb2
      go_wp2_with fail
      refine (HMV.out _).mono ?_
      rintro e w3 ⟨rfl, rfl⟩
      go_wp2
      all_goals
        go_ret
        exact ⟨ret_bool (by rw [HR.out, HMP.out, Bool.eq_iff_iff]; simp; try omega), HB2.out⟩
end Go.Proofs.Ytoibanffaebllaa
