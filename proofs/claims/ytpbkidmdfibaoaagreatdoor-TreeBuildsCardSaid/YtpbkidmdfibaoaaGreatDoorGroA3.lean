/-
  Layer 3: the grower's method add; what it keeps. Own work.
-/
import Derived.Test.YtpbkidmdfibaoaaGreatDoorGroT3
namespace Go.Proofs.YtpbkidmdfibaoaaGreatDoor
set_option linter.unusedVariables false
set_option linter.unusedSimpArgs false
open Go.RowKit

variable {Od : Nat → Prop}

theorem GR.t0 {w0 w : World} {G : Nat} {g : Gs} {fs : List Fr} {vo vr : Value} {F : Nat → Prop} (h : GR w0 Od G g fs vo vr F w) : ∀ u ∈ g.st, u.t = [] := by
  intro u hu
  rw [← h.st] at hu
  obtain ⟨f, _, rfl⟩ := List.mem_map.1 hu
  rfl
theorem TB.mono {M M' : Nat} {g : Gs} (h : TB M g) (hM : M ≤ M') : TB M' g := fun u hu k hk => Nat.le_trans (h u hu k hk) hM
theorem TB.leave {M : Nat} {g : Gs} (h : TB M g) (h0 : ∀ u ∈ g.st, u.t = []) : TB M (leaveG g) := by
  unfold leaveG
  split
  · exact h
  · intro u hu; cases hu
  · next x u st hst =>
    intro v hv k hk
    rcases List.mem_cons.1 hv with rfl | hv
    · simp only [Tr.add, Tr.ks] at hk
      rcases List.mem_append.1 hk with hk | hk
      · exact h u (by rw [hst]; simp) k hk
      · rw [List.mem_singleton.1 hk, h0 x (by rw [hst]; simp)]
        exact Nat.zero_le _
    · exact h v (by rw [hst]; simp [hv]) k hk
theorem TB.add {M : Nat} {g g' : Gs} {x : Tk} (h : TB M g) (h0 : ∀ u ∈ g.st, u.t = []) (ha : addG g x = .ok g') : TB (M + x.t.length) g' := by
  have hM : M ≤ M + x.t.length := Nat.le_add_right _ _
  unfold addG at ha
  split at ha
  · unfold beginG at ha
    have hn : TB M ⟨.mk x.n x.ats [] [] :: g.st, g.root, g.c + 1⟩ := fun u hu k hk => by
      rcases List.mem_cons.1 hu with rfl | hu
      · cases hk
      · exact h u hu k hk
    split at ha
    · cases ha
    · split at ha
      · cases ha
      · split at ha
        · cases ha
          refine TB.mono (TB.leave hn fun u hu => ?_) hM
          rcases List.mem_cons.1 hu with rfl | hu
          · rfl
          · exact h0 u hu
        · cases ha
          exact hn.mono hM
  · split at ha
    · unfold endG at ha
      split at ha
      · cases ha
      · split at ha
        · cases ha; exact (h.leave h0).mono hM
        · cases ha
    · split at ha
      · unfold textG at ha
        have hnew : ∀ (u : Tr) (st : List Tr), g.st = u :: st → TB (M + x.t.length) ⟨u.add (.mk [] [] [] x.t) :: st, g.root, g.c + 1⟩ := fun u st hst v hv k hk => by
          rcases List.mem_cons.1 hv with rfl | hv
          · simp only [Tr.add, Tr.ks] at hk
            rcases List.mem_append.1 hk with hk | hk
            · exact Nat.le_trans (h u (by rw [hst]; simp) k hk) hM
            · rw [List.mem_singleton.1 hk]; show x.t.length ≤ _; omega
          · exact Nat.le_trans (h v (by rw [hst]; simp [hv]) k hk) hM
        split at ha
        · split at ha
          · cases ha; exact h.mono hM
          · cases ha
        · next u st hst =>
          split at ha
          · cases ha; exact h.mono hM
          · split at ha
            · next k hk =>
              split at ha
              · cases ha
                intro v hv q hq
                rcases List.mem_cons.1 hv with rfl | hv
                · simp only [Tr.put, Tr.ks] at hq
                  rcases List.mem_append.1 hq with hq | hq
                  · exact Nat.le_trans (h u (by rw [hst]; simp) q ((List.dropLast_sublist _).subset hq)) hM
                  · rw [List.mem_singleton.1 hq]
                    have h1 := h u (by rw [hst]; simp) k (List.mem_of_getLast? hk)
                    show (k.t ++ x.t).length ≤ _
                    rw [List.length_append]; omega
                · exact Nat.le_trans (h v (by rw [hst]; simp [hv]) q hq) hM
              · split at ha
                · cases ha
                · cases ha; exact hnew u st hst
            · split at ha
              · cases ha
              · cases ha; exact hnew u st hst
      · cases ha; exact h.mono hM
set_option maxRecDepth 100000 in
set_option maxHeartbeats 1000000 in
theorem gadd_at {w0 w : World} {G : Nat} {g : Gs} {fs : List Fr} {vo vr : Value} {F : Nat → Prop} (h : GR w0 Od G g fs vo vr F w) (x : Tk) (va : Value) (p0 p1 p2 : Int)
    (hva : RdAs w0 va x.ats) (hvq : x.ats ≠ [] → ∀ q, va.ownBlock = some q → Od q) (M : Nat) (hM : TB M g) (hs : M + x.t.length ≤ 5000000) (hT : Lib.Utf8Tabs 1 2 w) :
    Calls Tryz.prog 20 #[.pointer (some ⟨G, 0, none⟩), .agg #[.int .i64 x.k, .string (str x.n), va, .string (str x.t), .int .i64 p0, .int .i64 p1, .int .i64 p2]] w (GP w0 Od w G (addG g x)) := by
  obtain ⟨k, n, ats, t, o⟩ := x
  dsimp only at hva hs ⊢
  obtain ⟨aa, ac, rfl⟩ := hva.shape
  obtain ⟨w1, hw1⟩ : ∃ w1, w1 = w.alloc (.cells #[.int .i64 k, .string (str n), .slice aa ats.length ac, .string (str t), .int .i64 p0, .int .i64 p1, .int .i64 p2] 51) := ⟨_, rfl⟩
  have hT1 : w1.heap[w.heap.size]? = some (.cells #[.int .i64 k, .string (str n), .slice aa ats.length ac, .string (str t), .int .i64 p0, .int .i64 p1, .int .i64 p2] 51 (0, 0)) := by rw [hw1]; exact heap_alloc_new w _
  have hb1 : Below w.heap.size w w1 := by rw [hw1]; exact (Below.refl _ _).alloc (Nat.le_refl _) _
  have h1 := h.below hb1
  have HBEG := Lib.hid (gbegin_at h1 k n t ats _ p0 p1 p2 hva hvq)
  have HEND := Lib.hid (gend_at h1 n)
  have HTXT := Lib.hid (gtext_at h1 t M hM hs (Utf8Tabs_below hT hb1))
  have HUP := Lib.hid (show ∀ r e w', GP w0 Od w1 G r e w' → GP w0 Od w G r e w' from fun r e w' hg => by
    cases r with
    | ok g' => exact hg
    | bad c => exact ⟨hg.1, hb1.trans (hg.2.mono hb1.size)⟩)
  have HW1 := Lib.hid hw1
  have H1 := Lib.hid h1
  clear hw1 h h1 hva hvq hT hM hs hb1
  go_enter Tryz.func20, Tryz.ntmps20
  go_upto_region 1 with fail
  rw [← HW1.out]
  generalize w.heap.size = T at hT1 ⊢
  have c0 : w1.cell? ⟨T, 0, none⟩ = some (.int .i64 k) := by rw [cell_of_row w1 T 0 _ _ (0, 0) hT1]; rfl
  have c1 : w1.cell? ⟨T, 1, none⟩ = some (.string (str n)) := by rw [cell_of_row w1 T 1 _ _ (0, 0) hT1]; rfl
  have c2 : w1.cell? ⟨T, 2, none⟩ = some (.slice aa ats.length ac) := by rw [cell_of_row w1 T 2 _ _ (0, 0) hT1]; rfl
  have c3 : w1.cell? ⟨T, 3, none⟩ = some (.string (str t)) := by rw [cell_of_row w1 T 3 _ _ (0, 0) hT1]; rfl
  have c4 : w1.cell? ⟨T, 4, none⟩ = some (.int .i64 p0) := by rw [cell_of_row w1 T 4 _ _ (0, 0) hT1]; rfl
  have c5 : w1.cell? ⟨T, 5, none⟩ = some (.int .i64 p1) := by rw [cell_of_row w1 T 5 _ _ (0, 0) hT1]; rfl
  have c6 : w1.cell? ⟨T, 6, none⟩ = some (.int .i64 p2) := by rw [cell_of_row w1 T 6 _ _ (0, 0) hT1]; rfl
  clear hT1
  by_cases k1 : k = 1
  · have HE := Lib.hid (show addG g ⟨k, n, ats, t, o⟩ = beginG g n ats k by unfold addG; rw [if_pos (.inl k1)])
    have q1 : (k == 1) = true := by simpa using k1
    clear k1
    go_wp2_with fail
    refine HBEG.out.mono ?_
    intro e w5 h5
    have H5 := HUP.out _ _ _ h5
    clear h5
    cases hB : beginG g n ats k with
    | ok g' =>
      rw [hB] at H5
      obtain ⟨rfl, h6⟩ := H5
      have HB := Lib.hid (HE.out.trans hB)
      clear hB
      go_wp2
      go_ret
      rw [HB.out]
      exact ⟨rfl, h6⟩
    | bad c =>
      rw [hB] at H5
      obtain ⟨rfl, h6⟩ := H5
      have HB := Lib.hid (HE.out.trans hB)
      clear hB
      go_wp2
      go_ret
      rw [HB.out]
      exact ⟨rfl, h6⟩
  have q1 : (k == 1) = false := by simpa using k1
  by_cases k2 : k = 2
  · have HE := Lib.hid (show addG g ⟨k, n, ats, t, o⟩ = beginG g n ats k by unfold addG; rw [if_pos (.inr k2)])
    have q2 : (k == 2) = true := by simpa using k2
    clear k1 k2
    go_wp2_with fail
    refine HBEG.out.mono ?_
    intro e w5 h5
    have H5 := HUP.out _ _ _ h5
    clear h5
    cases hB : beginG g n ats k with
    | ok g' =>
      rw [hB] at H5
      obtain ⟨rfl, h6⟩ := H5
      have HB := Lib.hid (HE.out.trans hB)
      clear hB
      go_wp2
      go_ret
      rw [HB.out]
      exact ⟨rfl, h6⟩
    | bad c =>
      rw [hB] at H5
      obtain ⟨rfl, h6⟩ := H5
      have HB := Lib.hid (HE.out.trans hB)
      clear hB
      go_wp2
      go_ret
      rw [HB.out]
      exact ⟨rfl, h6⟩
  have q2 : (k == 2) = false := by simpa using k2
  by_cases k3 : k = 3
  · have HE := Lib.hid (show addG g ⟨k, n, ats, t, o⟩ = endG g n by unfold addG; rw [if_neg (by simp [k1, k2]), if_pos k3])
    have q3 : (k == 3) = true := by simpa using k3
    clear k1 k2 k3
    go_wp2_with fail
    refine HEND.out.mono ?_
    intro e w5 h5
    have H5 := HUP.out _ _ _ h5
    clear h5
    cases hB : endG g n with
    | ok g' =>
      rw [hB] at H5
      obtain ⟨rfl, h6⟩ := H5
      have HB := Lib.hid (HE.out.trans hB)
      clear hB
      go_wp2
      go_ret
      rw [HB.out]
      exact ⟨rfl, h6⟩
    | bad c =>
      rw [hB] at H5
      obtain ⟨rfl, h6⟩ := H5
      have HB := Lib.hid (HE.out.trans hB)
      clear hB
      go_wp2
      go_ret
      rw [HB.out]
      exact ⟨rfl, h6⟩
  have q3 : (k == 3) = false := by simpa using k3
  by_cases k4 : k = 4
  · have HE := Lib.hid (show addG g ⟨k, n, ats, t, o⟩ = textG g t by unfold addG; rw [if_neg (by simp [k1, k2]), if_neg k3, if_pos k4])
    have q4 : (k == 4) = true := by simpa using k4
    clear k1 k2 k3 k4
    go_wp2_with fail
    refine HTXT.out.mono ?_
    intro e w5 h5
    have H5 := HUP.out _ _ _ h5
    clear h5
    cases hB : textG g t with
    | ok g' =>
      rw [hB] at H5
      obtain ⟨rfl, h6⟩ := H5
      have HB := Lib.hid (HE.out.trans hB)
      clear hB
      go_wp2
      go_ret
      rw [HB.out]
      exact ⟨rfl, h6⟩
    | bad c =>
      rw [hB] at H5
      obtain ⟨rfl, h6⟩ := H5
      have HB := Lib.hid (HE.out.trans hB)
      clear hB
      go_wp2
      go_ret
      rw [HB.out]
      exact ⟨rfl, h6⟩
  have q4 : (k == 4) = false := by simpa using k4
  have HE := Lib.hid (show addG g ⟨k, n, ats, t, o⟩ = .ok g by unfold addG; rw [if_neg (by simp [k1, k2]), if_neg k3, if_neg k4])
  clear k1 k2 k3 k4
  go_wp2_with fail
  go_ret
  rw [HE.out]
  exact ⟨rfl, _, _, _, _, H1.out⟩
end Go.Proofs.YtpbkidmdfibaoaaGreatDoor
