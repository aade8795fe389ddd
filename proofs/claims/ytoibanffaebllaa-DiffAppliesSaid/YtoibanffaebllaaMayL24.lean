/-
  Layer 24: the contract of lock.May. Own work.
-/
import Derived.Test.YtoibanffaebllaaMay24
namespace Go.Proofs.Ytoibanffaebllaa
set_option linter.unusedVariables false
set_option linter.unusedSimpArgs false
open Go.RowKit

/-- a lock in a variable of its own -/
def LkIn (w : World) (b : Nat) (g a v : ByteArray) (pv : Value) : Prop :=
  w.cell? ⟨b, 0, none⟩ = some (.string g) ∧ w.cell? ⟨b, 1, none⟩ = some (.string a) ∧ w.cell? ⟨b, 2, none⟩ = some (.string v) ∧ w.cell? ⟨b, 3, none⟩ = some pv
theorem LkIn.new (w : World) (g a v : ByteArray) (pv : Value) : LkIn (w.alloc (.cells #[.string g, .string a, .string v, pv] 26)) w.heap.size g a v pv := by
  refine ⟨?_, ?_, ?_, ?_⟩ <;> simp [go_sem]
theorem LkIn.below {w w' : World} {b B : Nat} {g a v : ByteArray} {pv : Value} (h : LkIn w b g a v pv) (hb : Below B w w') (hB : w.heap.size ≤ B) : LkIn w' b g a v pv := by
  obtain ⟨h0, h1, h2, h3⟩ := h
  have hc : ∀ {A : Addr} {x : Value}, w.cell? A = some x → w'.cell? A = some x := fun hx => (hb.cell (Nat.lt_of_lt_of_le (World.block_lt_of_cell? w _ hx) hB)).trans hx
  exact ⟨hc h0, hc h1, hc h2, hc h3⟩
set_option maxRecDepth 100000 in
set_option maxHeartbeats 2000000 in
theorem MayL_any (g a v : ByteArray) (hg : okT g) (ha : okT a) (hv : okT v) (pv : Value) (l : List Pn) (hok : ∀ p ∈ l, okP p) (hl : l.length ≤ 1000000) (w : World) (hr : RdN w pv l) :
    Calls Try.prog 24 #[lockV g a v pv] w fun e w' => e = .returned (.bool (mayLock g a v l)) ∧ Below w.heap.size w w' := by
  obtain ⟨pa, pc, rfl⟩ := hr.shape
  have hlI : (l.length : Int) ≤ 1000000 := by omega
  have hmg := fun w => MayGav_any g a v hg ha hv w
  have hml : mayLock g a v l = (mayGav g a v && decide (l.length ≤ 4096) && allMay l) := rfl
  unfold gavV at hmg
  generalize mayGav g a v = bg at hmg hml
  have HMG := Lib.hid hmg
  have HML := Lib.hid hml
  have HR := Lib.hid hr
  have HOK := Lib.hid hok
  have hb1 : Below w.heap.size w (w.alloc (.cells #[.string g, .string a, .string v, .slice pa l.length pc] 26)) := (Below.refl w.heap.size w).alloc (Nat.le_refl _) _
  have HNEW := Lib.hid (LkIn.new w g a v (.slice pa l.length pc))
  have HB1 := Lib.hid hb1
  clear hmg hml hr hok hb1
  unfold lockV
  cases bg
  · go_enter Try.func24, Try.ntmps24
    go_wp2_with fail
    refine (HMG.out _).mono ?_
    rintro e w2 ⟨rfl, hb2⟩
    have HB2 := Lib.hid (HB1.out.trans (hb2.mono HB1.out.size))
    clear hb2
    go_wp2
    go_ret
    exact ⟨ret_bool (by rw [HML.out]; simp), HB2.out⟩
  by_cases h4 : l.length ≤ 4096
  case neg =>
    have h4I : (4096 : Int) < l.length := by omega
    go_enter Try.func24, Try.ntmps24
    go_wp2_with fail
    refine (HMG.out _).mono ?_
    rintro e w2 ⟨rfl, hb2⟩
    have HB2 := Lib.hid (HB1.out.trans (hb2.mono HB1.out.size))
    obtain ⟨y0, y1, y2, y3⟩ := HNEW.out.below hb2 (Nat.le_refl _)
    clear hb2
    go_wp2
    go_ret
    exact ⟨ret_bool (by rw [HML.out]; simp; omega), HB2.out⟩
  have h4I : (l.length : Int) ≤ 4096 := by omega
  have HM2 := Lib.hid (show mayLock g a v l = allMay l by rw [HML.out, decide_eq_true h4]; simp)
  go_enter Try.func24, Try.ntmps24
  go_wp2_with fail
  refine (HMG.out _).mono ?_
  rintro e w2 ⟨rfl, hb2⟩
  have HB2 := Lib.hid (HB1.out.trans (hb2.mono HB1.out.size))
  have hlk2 := HNEW.out.below hb2 (Nat.le_refl _)
  have HLK2 := Lib.hid hlk2
  obtain ⟨y0, y1, y2, y3⟩ := hlk2
  clear hb2 HNEW
  go_wp2_with fail
  clear y0 y1 y2 y3
  go_loopw [17] (fun i wr => ∃ k : Nat, k ≤ l.length ∧ i = .int .i64 k ∧ (∀ j, j < k → mayAt l j = true) ∧ Below w2.heap.size w2 wr) (fun i _ => l.length - (intOf i).toNat)
  case atStart => exact ⟨0, by omega, rfl, fun j hj => by omega, Below.refl _ _⟩
  case round =>
    obtain ⟨k, hk, rfl, hall, hb⟩ := hrel
    have HALL := Lib.hid hall
    have HB := Lib.hid hb
    obtain ⟨y0, y1, y2, y3⟩ := HLK2.out.below hb (Nat.le_refl _)
    clear hall
    by_cases hlt : k < l.length
    · obtain ⟨p, hp⟩ : ∃ p, l[k]? = some p := ⟨_, List.getElem?_eq_getElem hlt⟩
      have hcall := mayPin_any (.slice pa l.length pc) l k p hp (HOK.out p (List.mem_of_getElem? hp)) wr ((HR.out.below HB2.out (Nat.le_refl _)).below hb (Nat.le_refl _))
      generalize hma : mayAt l k = m at hcall
      have HMA := Lib.hid hma
      have HCALL := Lib.hid hcall
      have hltI : (k : Int) < l.length := by omega
      clear hcall hb hp hma
      go_wp2_with fail
      refine HCALL.out.mono ?_
      rintro e w3 ⟨rfl, hb3⟩
      have HB3 := Lib.hid (HB.out.trans (hb3.mono HB.out.size))
      clear hb3 y0 y1 y2 y3
      cases m
      · go_wp2
        go_ret
        exact ⟨ret_bool (by rw [HM2.out]; exact (allMay_no hlt HMA.out).symm), HB2.out.trans (HB3.out.mono HB2.out.size)⟩
      · go_wp2
        go_roundw
        case rel =>
          refine ⟨k + 1, by omega, by go_num, fun j hj => ?_, HB3.out⟩
          by_cases hjk : j = k
          · subst hjk; exact HMA.out
          · exact HALL.out j (by omega)
        case measure => simp [intOf]; omega
    · have hkl : k = l.length := by omega
      have hlt' : (l.length : Int) ≤ k := by omega
      have HF := Lib.hid (show allMay l = true from allMay_iff.2 (by rw [← hkl]; exact HALL.out))
      clear hkl hb
      go_wp2
      go_ret
      exact ⟨ret_bool (by rw [HM2.out]; exact HF.out.symm), HB2.out.trans (HB.out.mono HB2.out.size)⟩
end Go.Proofs.Ytoibanffaebllaa
