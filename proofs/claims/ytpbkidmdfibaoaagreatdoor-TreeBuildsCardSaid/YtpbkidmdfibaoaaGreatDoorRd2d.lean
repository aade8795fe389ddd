/-
  Layer 2: contracts of the reader's methods reference and letters. Own work.
-/
import Derived.Test.YtpbkidmdfibaoaaGreatDoorRd2c
import Derived.Test.YtpbkidmdfibaoaaGreatDoorBuilder
namespace Go.Proofs.YtpbkidmdfibaoaaGreatDoor
set_option linter.unusedVariables false
set_option linter.unusedSimpArgs false
open Go.RowKit

/-- of the blocks below B only X turns -/
structure FrX (B X : Nat) (w w' : World) : Prop where
  os : w'.os = w.os
  tape : w'.tape = w.tape
  output : w'.output = w.output
  size : w.heap.size ≤ w'.heap.size
  block : ∀ k, k < B → k ≠ X → w'.heap[k]? = w.heap[k]?
theorem FrX.refl (B X : Nat) (w : World) : FrX B X w w := ⟨rfl, rfl, rfl, Nat.le_refl _, fun _ _ _ => rfl⟩
theorem FrX.trans {B X : Nat} {w w1 w2 : World} (h : FrX B X w w1) (k : FrX B X w1 w2) : FrX B X w w2 :=
  ⟨k.os.trans h.os, k.tape.trans h.tape, k.output.trans h.output, Nat.le_trans h.size k.size, fun b hb hx => (k.block b hb hx).trans (h.block b hb hx)⟩
theorem FrX.ofMv {B X : Nat} {l r : List UInt8} {w w' : World} (h : Mv X l r w w') (hB : B ≤ w.heap.size) : FrX B X w w' :=
  ⟨h.2.os, h.2.tape, h.2.output, h.2.size, fun k hk hx => h.2.block k (by omega) (by simp; exact hx)⟩
theorem FrX.ofBelow {B X : Nat} {w w' : World} (h : Below B w w') : FrX B X w w' := ⟨h.os, h.tape, h.output, h.size, fun k hk _ => h.block k hk⟩
theorem FrX.grown {X : Nat} {w w' : World} (h : FrX w.heap.size X w w') : w.grownBy w' (some X) := ⟨h.os, h.tape, h.output, h.size, fun k hk hx => h.block k hk (by simpa using hx)⟩
theorem RT.belowB {w w' : World} {X B : Nat} {l r : List UInt8} (h : RT w X l r) (hb : Below B w w') (hX : X < B) : RT w' X l r := ⟨h.1, (hb.block X hX).trans h.2⟩
theorem Bld.kept {B b X : Nat} {bs : List UInt8} {w w' : World} (h : Bld B b bs w) (hg : w.grownBy w' (some X)) (hX : X < B) : Bld B b bs w' := by
  have one : ∀ p, Lib.BuilderAt 89 5 B b p (Lib.byteCells bs) w → Lib.BuilderAt 89 5 B b p (Lib.byteCells bs) w' := by
    rintro p ⟨hB, v, hb, hown, hne⟩
    refine ⟨hB, v, (hg.block b (Array.getElem?_eq_some_iff.1 hb).1 (by simp; omega)).trans hb, hown.kept hg ?_, hne⟩
    cases hv : v.ownBlock with
    | none => exact .inl rfl
    | some q =>
      have := (hown.lt q hv).1
      exact .inr (by simp; omega)
  exact h.imp (one _) (one _)
theorem size4 (c : Nat) (a1 a2 a3 a4 : ByteArray) (h1 : a1.size = 1) (h2 : a2.size = 2) (h3 : a3.size = 3) (h4 : a4.size = 4) (p q r : Prop) [Decidable p] [Decidable q] [Decidable r] : (if p then a1 else if q then a2 else if r then a3 else a4).size ≤ 4 := by
  split
  · omega
  · split
    · omega
    · split <;> omega
theorem utf8_small (n : Int) : (Utf8.encode n).size ≤ 4 := by
  unfold Utf8.encode
  exact size4 0 _ _ _ _ rfl rfl rfl rfl _ _ _
theorem letB_small (n : Int) : (letB n).size ≤ 4 := by
  unfold letB
  split
  · exact utf8_small n
  · decide
theorem fin_small {b : Int} {l : List UInt8} {f j : Nat} {x : ByteArray} {n : Nat} (h : finS b l f j = (x, n, 0)) : n ≤ l.length ∧ 1 ≤ n ∧ x.size ≤ 4 := by
  unfold finS at h
  split at h
  · simp at h
  · split at h
    · simp at h
    · next h1 h2 =>
      split at h
      · simp only [Prod.mk.injEq, and_true] at h
        obtain ⟨rfl, rfl⟩ := h
        have h3 : l[f + j]? = some 59 := by
          cases hq : l[f + j]? with
          | none => exact absurd (.inr (by rw [hq]; simp)) h2
          | some c =>
            by_cases hc : c = 59
            · rw [hc]
            · exact absurd (.inr (by rw [hq]; simpa using hc)) h2
        have := (List.getElem?_eq_some_iff.1 h3).1
        exact ⟨by omega, by omega, letB_small _⟩
      · simp at h
theorem refS_small {l : List UInt8} {x : ByteArray} {n : Nat} (h : refS l = (x, n, 0)) : n ≤ l.length ∧ 1 ≤ n ∧ x.size ≤ 4 := by
  unfold refS at h
  split at h
  · exact fin_small h
  · split at h
    · exact fin_small h
    · split at h
      · next w hw =>
        simp only [Prod.mk.injEq, and_true] at h
        obtain ⟨rfl, rfl⟩ := h
        have h1 := List.find?_some hw
        have h2 := List.mem_of_find?_eq_some hw
        refine ⟨(List.isPrefixOf_iff_prefix.1 h1).length_le, ?_, by rw [size_str]; simp⟩
        simp only [words, List.mem_cons, List.not_mem_nil, or_false] at h2
        rcases h2 with rfl | rfl | rfl | rfl | rfl <;> simp
      · split at h <;> simp at h
theorem refS_bad {l : List UInt8} {x : ByteArray} {n y : Nat} (h : refS l = (x, n, y)) : y = 0 ∨ y = 1 ∨ y = 2 := by
  have hf : ∀ b f j, finS b l f j = (x, n, y) → y = 0 ∨ y = 1 ∨ y = 2 := by
    intro b f j h
    unfold finS at h
    repeat' split at h
    all_goals (simp only [Prod.mk.injEq] at h; omega)
  unfold refS at h
  split at h
  · exact hf _ _ _ h
  · split at h
    · exact hf _ _ _ h
    · split at h
      · simp only [Prod.mk.injEq] at h; omega
      · split at h <;> (simp only [Prod.mk.injEq] at h; omega)
/-- what reference leaves -/
def RefQ (X B b : Nat) (l r acc : List UInt8) (w : World) (e : Ending) (w' : World) : Prop :=
  match refS r with
  | (x, n, 0) => e = .returned (.tuple #[]) ∧ RT w' X l (r.drop n) ∧ Bld B b (acc ++ x.data.toList) w' ∧ FrX B X w w'
  | (_, _, y) => e = bad2 (errno y) l r ∧ RT w' X l r ∧ FrX B X w w'
set_option maxHeartbeats 2000000 in
theorem reference_at (X B b : Nat) (l r acc : List UInt8) (hl : l.length ≤ 1000000) (hX : X < B) (ha : acc.length ≤ 100000000) (w : World) (hB : B ≤ w.heap.size) (h : RT w X l r) (hbd : Bld B b acc w) :
    Calls Tryz.prog 97 #[.pointer (some ⟨X, 0, none⟩), .pointer (some ⟨b, 0, none⟩)] w (RefQ X B b l r acc w) := by
  have HR := Lib.hid (rest_at X l r w h)
  have hll := suf_len h.1
  have HBD := Lib.hid hbd
  clear h hbd
  have hrf := fun w => Ref_any (str r) (by rw [size_str]; omega) w
  rw [toList_str] at hrf
  obtain ⟨⟨x, n, y⟩, hxy⟩ : ∃ z, refS r = z := ⟨_, rfl⟩
  rw [hxy] at hrf
  unfold refV at hrf
  dsimp only at hrf
  have HRF := Lib.hid hrf
  have HXY := Lib.hid hxy
  have hy := refS_bad hxy
  by_cases h0 : y = 0
  · subst h0
    obtain ⟨hn, hn1, hx4⟩ := refS_small hxy
    clear hrf hxy hy
    go_enter Tryz.func97, Tryz.ntmps97
    go_wp2_with fail
    refine HR.out.mono ?_
    rintro e w2 ⟨rfl, hm⟩
    have HM := Lib.hid hm
    have HF2 := Lib.hid (FrX.ofMv (B := B) hm hB)
    have HBD2 := Lib.hid (HBD.out.kept hm.2 hX)
    clear hm HR
    go_wp2_with fail
    refine (HRF.out w2).mono ?_
    rintro e w3 ⟨rfl, hw3⟩
    obtain rfl : w2 = w3 := hw3.symm
    have HWS := Lib.hid (bu_writeString B b acc x w2 HBD2.out (by omega) (Nat.le_trans hB HF2.out.size))
    have he0 : errno 0 = 0 := rfl
    rw [he0]
    go_wp2_with fail
    refine HWS.out.mono ?_
    rintro e w4 ⟨rfl, hb4, hbl4⟩
    have HB4 := Lib.hid hb4
    have HF4 := Lib.hid (HF2.out.trans (FrX.ofBelow (X := X) hbl4))
    have HRT4 := Lib.hid (HM.out.1.belowB hbl4 hX)
    have HK := Lib.hid (skip_at X l r n hn hl w4 HRT4.out)
    clear hb4 hbl4 HWS HRF
    go_wp2_with fail
    refine HK.out.mono ?_
    rintro e w5 ⟨rfl, hm5⟩
    have HM5 := Lib.hid hm5.1
    have HB5 := Lib.hid (HB4.out.kept hm5.2 hX)
    have HF5 := Lib.hid (HF4.out.trans (FrX.ofMv (B := B) hm5 (Nat.le_trans hB HF4.out.size)))
    clear hm5 HK
    go_wp2
    go_end0
    unfold RefQ
    rw [HXY.out]
    exact ⟨rfl, HM5.out, HB5.out, HF5.out⟩
  · have hne : (errno y != 0) = true := by
      rcases hy with h | rfl | rfl
      · exact absurd h h0
      · decide
      · decide
    have HY0 := Lib.hid h0
    clear hrf hxy hy h0
    go_enter Tryz.func97, Tryz.ntmps97
    go_wp2_with fail
    refine HR.out.mono ?_
    rintro e w2 ⟨rfl, hm⟩
    have HM := Lib.hid hm
    have HF2 := Lib.hid (FrX.ofMv (B := B) hm hB)
    have HFL := Lib.hid (fun e0 => fail_at X l r e0 w2 hm.1)
    clear hm HR
    go_wp2_with fail
    refine (HRF.out w2).mono ?_
    rintro e w3 ⟨rfl, hw3⟩
    obtain rfl : w2 = w3 := hw3.symm
    generalize hee : errno y = ey at hne ⊢
    have HEE := Lib.hid hee
    clear hee
    go_wp2_with fail
    refine (HFL.out _).mono ?_
    rintro e w4 ⟨rfl, rfl⟩
    go_wp2
    refine ⟨rfl, ?_⟩
    unfold RefQ
    rw [HXY.out]
    split
    · next heq => simp only [Prod.mk.injEq] at heq; exact absurd heq.2.2 HY0.out
    · next y' _ heq =>
      simp only [Prod.mk.injEq] at heq
      obtain ⟨_, _, rfl⟩ := heq
      rw [HEE.out]
      exact ⟨rfl, HM.out.1, HF2.out⟩
end Go.Proofs.YtpbkidmdfibaoaaGreatDoor
