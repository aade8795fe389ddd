/-
  Layer 21: the document's examples hold. Own work.
-/
import Derived.Test.YtfgoalgfpcalgaaAtMost
import Derived.Test.YtfgoalgfpcalgaaAtMost0
namespace Go.Proofs.Ytfgoalgfpcalgaa
set_option linter.unusedVariables false
set_option linter.unusedSimpArgs false
open Go.RowKit

theorem RowsAt.at {w : World} {lo : Nat} {v : Value} {cs : List (List Int)} (h : RowsAt w lo v cs) (h0 : 0 < cs.length) : ∃ g cap, v = .slice (some ⟨g, 0, none⟩) cs.length cap ∧ cs.length ≤ cap ∧ cap ≤ 9223372036854775807 ∧ g < w.heap.size ∧
    ∀ (j : Nat) c, cs[j]? = some c → ∃ b bc, w.cell? ⟨g, j, none⟩ = some (.slice (some ⟨b, 0, none⟩) c.length bc) ∧ b < w.heap.size ∧ c.length ≤ bc ∧ bc ≤ 9223372036854775807 ∧ ∀ (i : Nat) n, c[i]? = some n → w.cell? ⟨b, i, none⟩ = some (.int .i64 n) := by
  obtain ⟨rows, ho, hr⟩ := h
  have ho' := ho
  rcases ho.2 with ⟨_, h'⟩ | ⟨g, cap, cur, rfl, _, hg, hn, hcm, _, _⟩
  · omega
  · refine ⟨g, cap, rfl, hn, by unfold maxLen at hcm; exact hcm, (Array.getElem?_eq_some_iff.1 hg).1, fun j c hj => ?_⟩
    obtain ⟨r, h1, h2⟩ := hr j c hj
    obtain ⟨b, bc, rfl, _, hb, h3, h4, h5⟩ := h2.cells
    have hjl : j < cs.length := (List.getElem?_eq_some_iff.1 hj).1
    have hc := ho'.cellAt j (by omega)
    exact ⟨b, bc, hc.trans h1, hb, h3, h4, h5⟩
theorem made2 (w : World) (a b : Int) : SlOf (w.alloc (.cells #[.int .i64 a, .int .i64 b] 3)) iV (.slice (some ⟨w.heap.size, 0, none⟩) 2 2) [a, b] := by
  refine ⟨some ⟨w.heap.size, 0, none⟩, 2, rfl, by simp, by omega, fun j x hx => ⟨w.heap.size, 0, rfl, by simp, ?_⟩⟩
  match j with
  | 0 => simp at hx; subst hx; simp [go_sem, iV]
  | 1 => simp at hx; subst hx; simp [go_sem, iV]
  | j + 2 => simp at hx
theorem bd12 : ∀ (j : Nat) (n : Int), ([1, 2] : List Int)[j]? = some n → -1000000 ≤ n ∧ n ≤ 1000000 := by
  intro j n h
  match j with
  | 0 => simp at h; omega
  | 1 => simp at h; omega
  | j + 2 => simp at h
def Post1 (w : World) (e : Ending) (w' : World) : Prop :=
  ∃ g cap b0 c0 b1 c1, e = .returned (.tuple #[.slice (some ⟨g, 0, none⟩) 2 cap, .int .i64 4]) ∧ Below w.heap.size w w' ∧ 2 ≤ cap ∧ cap ≤ 9223372036854775807 ∧ 2 ≤ c0 ∧ c0 ≤ 9223372036854775807 ∧ 2 ≤ c1 ∧ c1 ≤ 9223372036854775807 ∧ g < w'.heap.size ∧ b0 < w'.heap.size ∧ b1 < w'.heap.size ∧
    w'.cell? ⟨g, 0, none⟩ = some (.slice (some ⟨b0, 0, none⟩) 2 c0) ∧ w'.cell? ⟨g, 1, none⟩ = some (.slice (some ⟨b1, 0, none⟩) 2 c1) ∧
    w'.cell? ⟨b0, 0, none⟩ = some (.int .i64 (-1)) ∧ w'.cell? ⟨b0, 1, none⟩ = some (.int .i64 3) ∧ w'.cell? ⟨b1, 0, none⟩ = some (.int .i64 (-2)) ∧ w'.cell? ⟨b1, 1, none⟩ = some (.int .i64 (-3))
theorem live1 (w : World) : Calls Try.prog 8 #[.slice (some ⟨w.heap.size, 0, none⟩) 2 2, .int .i64 1, .int .i64 3] (w.alloc (.cells #[.int .i64 1, .int .i64 2] 3)) (Post1 w) := by
  refine (AtMost_main _ [1, 2] 1 3 (by decide) (by decide) (by decide) bd12 (by decide) (by decide) _ (made2 w 1 2)).mono ?_
  rintro e w' ⟨v, he, hr, hb⟩
  rw [show most [1, 2] 1 3 = [[-1, 3], [-2, -3]] by decide] at hr
  obtain ⟨g, cap, rfl, h1, h2, h3, h4⟩ := hr.at (by decide)
  obtain ⟨b0, c0, k1, k2, k3, k4, k5⟩ := h4 0 [-1, 3] rfl
  obtain ⟨b1, c1, m1, m2, m3, m4, m5⟩ := h4 1 [-2, -3] rfl
  refine ⟨g, cap, b0, c0, b1, c1, he, ?_, h1, h2, k3, k4, m3, m4, h3, k2, m2, k1, m1, k5 0 (-1) rfl, k5 1 3 rfl, m5 0 (-2) rfl, m5 1 (-3) rfl⟩
  exact ((Below.refl _ _).alloc (Nat.le_refl _) _).trans (hb.mono (by simp))
def Post2 (w : World) (e : Ending) (w' : World) : Prop :=
  ∃ g cap, e = .returned (.tuple #[.slice (some ⟨g, 0, none⟩) 2 cap, .int .i64 3]) ∧ Below w.heap.size w w'
theorem live2 (w : World) : Calls Try.prog 8 #[.slice (some ⟨w.heap.size, 0, none⟩) 2 2, .int .i64 0, .int .i64 3] (w.alloc (.cells #[.int .i64 1, .int .i64 2] 3)) (Post2 w) := by
  refine (AtMost_zero _ [1, 2] 3 (by decide) (by decide) bd12 (by decide) (by decide) _ (made2 w 1 2)).mono ?_
  rintro e w' ⟨v, he, hr, hb⟩
  obtain ⟨g, cap, rfl, -⟩ := hr.at (by decide)
  exact ⟨g, cap, he, ((Below.refl _ _).alloc (Nat.le_refl _) _).trans (hb.mono (by simp))⟩
set_option maxHeartbeats 2000000 in
theorem lives21 (w : World) : Calls Try.prog 12 #[] w fun e w' => e = .returned (.bool true) ∧ Below w.heap.size w w' := by
  go_enter Try.func12, Try.ntmps12
  go_wp2_with fail
  refine (live1 _).mono ?_
  rintro e w1 ⟨g, cap, b0, c0, b1, c1, rfl, hb, p1, p2, p3, p4, p5, p6, p7, p8, p9, q1, q2, q3, q4, q5, q6⟩
  have HB := Lib.hid hb; clear hb
  go_wp2_with fail
  refine (live2 _).mono ?_
  rintro e w2 ⟨g2, cap2, rfl, hb2⟩
  have r1 := (hb2.cell (p := ⟨g, 0, none⟩) p7).trans q1
  have r2 := (hb2.cell (p := ⟨g, 1, none⟩) p7).trans q2
  have r3 := (hb2.cell (p := ⟨b0, 0, none⟩) p8).trans q3
  have r4 := (hb2.cell (p := ⟨b0, 1, none⟩) p8).trans q4
  have r5 := (hb2.cell (p := ⟨b1, 0, none⟩) p9).trans q5
  have r6 := (hb2.cell (p := ⟨b1, 1, none⟩) p9).trans q6
  have HB2 := Lib.hid (HB.out.trans (hb2.mono HB.out.size))
  clear q1 q2 q3 q4 q5 q6 hb2
  go_wp2
  go_ret
  exact ⟨rfl, HB2.out⟩
end Go.Proofs.Ytfgoalgfpcalgaa
