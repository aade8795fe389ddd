/-
  Layer 10: the answer's sameness of rows of dependencies, and of projects. Own work.
-/
import Derived.Test.YtjkmmmmbdfcnbaaSame10
namespace Go.Proofs.Ytjkmmmmbdfcnbaa
set_option linter.unusedVariables false
set_option linter.unusedSimpArgs false
open Go.RowKit

abbrev DpC (w : World) (a : Addr) (d : Dp) (ex : Value) : Prop :=
  w.cell? a = some (.string d.g) ∧ w.cell? ⟨a.block, a.off + 1, none⟩ = some (.string d.a) ∧ w.cell? ⟨a.block, a.off + 2, none⟩ = some (.string d.v) ∧ w.cell? ⟨a.block, a.off + 3, none⟩ = some (.string d.t) ∧
    w.cell? ⟨a.block, a.off + 4, none⟩ = some (.string d.c) ∧ w.cell? ⟨a.block, a.off + 5, none⟩ = some (.int .i64 d.sc) ∧ w.cell? ⟨a.block, a.off + 6, none⟩ = some (.int .i64 d.op) ∧ w.cell? ⟨a.block, a.off + 7, none⟩ = some ex
theorem DpC.below {w w' : World} {a : Addr} {d : Dp} {ex : Value} (h : DpC w a d ex) (hb : Below w.heap.size w w') : DpC w' a d ex := by
  have hc : ∀ {A : Addr} {x : Value}, w.cell? A = some x → w'.cell? A = some x := fun hx => (hb.cell (World.block_lt_of_cell? w _ hx)).trans hx
  obtain ⟨h0, h1, h2, h3, h4, h5, h6, h7⟩ := h
  exact ⟨hc h0, hc h1, hc h2, hc h3, hc h4, hc h5, hc h6, hc h7⟩
theorem keepDD {w1 w2 w3 : World} {a b : Addr} {x y : Dp} {e f : Value} (h : DpC w2 a x e ∧ (DpC w2 b y f ∧ Below w1.heap.size w1 w2)) (hb : Below w2.heap.size w2 w3) : DpC w3 a x e ∧ (DpC w3 b y f ∧ Below w1.heap.size w1 w3) :=
  ⟨h.1.below hb, h.2.1.below hb, h.2.2.trans (hb.mono h.2.2.size)⟩
set_option maxRecDepth 100000 in
set_option maxHeartbeats 4000000 in
theorem SameDeps_any (va vb : Value) (l m : List Dp) (w : World) (ha : RdDs w va l) (hb : RdDs w vb m) :
    Calls Try.prog 13 #[va, vb] w (BoolQ (sameL sameDp l m) w) := by
  obtain ⟨aa, ac, rfl⟩ := RdSl.shape ha
  obtain ⟨ba, bc, rfl⟩ := RdSl.shape hb
  have hla := RdSl.len ha
  have hlb := RdSl.len hb
  have hlaI : (l.length : Int) ≤ 9223372036854775807 := by omega
  have hlbI : (m.length : Int) ≤ 9223372036854775807 := by omega
  have HA := Lib.hid ha
  have HBB := Lib.hid hb
  clear ha hb
  go_enter Try.func13, Try.ntmps13
  by_cases hne : l.length = m.length
  case neg =>
    have HNE := Lib.hid hne
    have hneI : ((l.length : Int) != (m.length : Int)) = true := by simpa using fun h => hne (by omega)
    clear hne
    go_wp2
    go_ret
    exact ⟨ret_bool (sameL_len HNE.out).symm, Below.refl _ _⟩
  have HEQ := Lib.hid hne
  rw [← hne]
  rw [← hne] at HBB
  clear hne
  go_wp2_with fail
  go_loopw [13] (fun i wr => ∃ k : Nat, k ≤ l.length ∧ i = .int .i64 k ∧ (∀ (i : Nat) x y, i < k → l[i]? = some x → m[i]? = some y → sameDp x y = true) ∧ Below w.heap.size w wr) (fun i _ => l.length - (intOf i).toNat)
  case atStart => exact ⟨0, by omega, rfl, (fun i x y h => absurd h (by omega)), Below.refl _ _⟩
  case round =>
    obtain ⟨k, hk, rfl, hall, hbw⟩ := hrel
    have HALL := Lib.hid hall
    have HB := Lib.hid hbw
    clear hall
    by_cases hlt : k < l.length
    · obtain ⟨x, hx⟩ : ∃ x, l[k]? = some x := ⟨_, List.getElem?_eq_getElem hlt⟩
      obtain ⟨y, hy⟩ : ∃ y, m[k]? = some y := ⟨_, List.getElem?_eq_getElem (by rw [← HEQ.out]; exact hlt)⟩
      obtain ⟨a1, e1, ex1, p, rx⟩ := RdSl.elem (HA.out.below hbw (Nat.le_refl _)) hx
      subst e1
      obtain ⟨b1, e1, ex2, q, ry⟩ := RdSl.elem (HBB.out.below hbw (Nat.le_refl _)) hy
      subst e1
      have HX := Lib.hid hx
      have HY := Lib.hid hy
      have HRX := Lib.hid rx
      have HRY := Lib.hid ry
      have hkI : (k : Int) < (l.length : Int) := by omega
      have hcall := fun w' hb => SameDep_any x y ex1 ex2 w' (RdXs.below rx hb (Nat.le_refl _)) (RdXs.below ry hb (Nat.le_refl _))
      generalize hs : sameDp x y = s at hcall
      have HS := Lib.hid hs
      unfold dpV at hcall
      have HC := Lib.hid hcall
      clear hx hy hbw hs rx ry hcall
      go_upto_region 6 with fail
      refine wp_region_held_drew (S := (fun w' => (w'.cell? (a1.add (k * 8)) = some (.string x.g) ∧ w'.cell? ⟨((a1.add (k * 8))).block, ((a1.add (k * 8))).off + 1, none⟩ = some (.string x.a) ∧ w'.cell? ⟨((a1.add (k * 8))).block, ((a1.add (k * 8))).off + 2, none⟩ = some (.string x.v) ∧ w'.cell? ⟨((a1.add (k * 8))).block, ((a1.add (k * 8))).off + 3, none⟩ = some (.string x.t) ∧ w'.cell? ⟨((a1.add (k * 8))).block, ((a1.add (k * 8))).off + 4, none⟩ = some (.string x.c) ∧ w'.cell? ⟨((a1.add (k * 8))).block, ((a1.add (k * 8))).off + 5, none⟩ = some (.int .i64 x.sc) ∧ w'.cell? ⟨((a1.add (k * 8))).block, ((a1.add (k * 8))).off + 6, none⟩ = some (.int .i64 x.op) ∧ w'.cell? ⟨((a1.add (k * 8))).block, ((a1.add (k * 8))).off + 7, none⟩ = some (ex1)) ∧ ((w'.cell? (b1.add (k * 8)) = some (.string y.g) ∧ w'.cell? ⟨((b1.add (k * 8))).block, ((b1.add (k * 8))).off + 1, none⟩ = some (.string y.a) ∧ w'.cell? ⟨((b1.add (k * 8))).block, ((b1.add (k * 8))).off + 2, none⟩ = some (.string y.v) ∧ w'.cell? ⟨((b1.add (k * 8))).block, ((b1.add (k * 8))).off + 3, none⟩ = some (.string y.t) ∧ w'.cell? ⟨((b1.add (k * 8))).block, ((b1.add (k * 8))).off + 4, none⟩ = some (.string y.c) ∧ w'.cell? ⟨((b1.add (k * 8))).block, ((b1.add (k * 8))).off + 5, none⟩ = some (.int .i64 y.sc) ∧ w'.cell? ⟨((b1.add (k * 8))).block, ((b1.add (k * 8))).off + 6, none⟩ = some (.int .i64 y.op) ∧ w'.cell? ⟨((b1.add (k * 8))).block, ((b1.add (k * 8))).off + 7, none⟩ = some (ex2)) ∧ Below wr.heap.size wr w'))) (by kernel_rfl) (by (try dsimp only); exact ⟨p, q, (Below.refl _ _).drew⟩) (fun hHeld => ?_)
      refine wpAnyH_take (i := 0) (v := ?_) (by (simp only [List.getElem?_toArray, List.getElem?_cons_succ, List.getElem?_cons_zero]; rfl)) (by kernel_rfl) (by kernel_rfl) (by kernel_rfl) (by intro _ _ _ h; exact h) (Or.inl ⟨by rfl, ?_⟩) (by assumption) ?_
      rotate_left
      · (intro w hSw; (try dsimp only at hSw); go_simp; try (with_reducible rfl))
      simp only [Act.put, List.setIfInBounds_toArray, List.set_cons_zero, List.set_cons_succ]
      refine wpAnyH_take (i := 1) (v := ?_) (by (simp only [List.getElem?_toArray, List.getElem?_cons_succ, List.getElem?_cons_zero]; rfl)) (by kernel_rfl) (by kernel_rfl) (by kernel_rfl) (by intro _ _ _ h; exact h) (Or.inl ⟨by rfl, ?_⟩) (by assumption) ?_
      rotate_left
      · (intro w hSw; (try dsimp only at hSw); go_simp; try (with_reducible rfl))
      simp only [Act.put, List.setIfInBounds_toArray, List.set_cons_zero, List.set_cons_succ]
      refine wpAnyH_take (i := 2) (v := ?_) (by (simp only [List.getElem?_toArray, List.getElem?_cons_succ, List.getElem?_cons_zero]; rfl)) (by kernel_rfl) (by kernel_rfl) (by kernel_rfl) (by intro _ _ _ h; exact h) (Or.inl ⟨by rfl, ?_⟩) (by assumption) ?_
      rotate_left
      · (intro w hSw; (try dsimp only at hSw); go_simp; try (with_reducible rfl))
      simp only [Act.put, List.setIfInBounds_toArray, List.set_cons_zero, List.set_cons_succ]
      refine wpAnyH_take (i := 3) (v := ?_) (by (simp only [List.getElem?_toArray, List.getElem?_cons_succ, List.getElem?_cons_zero]; rfl)) (by kernel_rfl) (by kernel_rfl) (by kernel_rfl) (by intro _ _ _ h; exact h) (Or.inl ⟨by rfl, ?_⟩) (by assumption) ?_
      rotate_left
      · (intro w hSw; (try dsimp only at hSw); go_simp; try (with_reducible rfl))
      simp only [Act.put, List.setIfInBounds_toArray, List.set_cons_zero, List.set_cons_succ]
      refine wpAnyH_take (i := 4) (v := ?_) (by (simp only [List.getElem?_toArray, List.getElem?_cons_succ, List.getElem?_cons_zero]; rfl)) (by kernel_rfl) (by kernel_rfl) (by kernel_rfl) (by intro _ _ _ h; exact h) (Or.inl ⟨by rfl, ?_⟩) (by assumption) ?_
      rotate_left
      · (intro w hSw; (try dsimp only at hSw); go_simp; try (with_reducible rfl))
      simp only [Act.put, List.setIfInBounds_toArray, List.set_cons_zero, List.set_cons_succ]
      refine wpAnyH_take (i := 5) (v := ?_) (by (simp only [List.getElem?_toArray, List.getElem?_cons_succ, List.getElem?_cons_zero]; rfl)) (by kernel_rfl) (by kernel_rfl) (by kernel_rfl) (by intro _ _ _ h; exact h) (Or.inl ⟨by rfl, ?_⟩) (by assumption) ?_
      rotate_left
      · (intro w hSw; (try dsimp only at hSw); go_simp; try (with_reducible rfl))
      simp only [Act.put, List.setIfInBounds_toArray, List.set_cons_zero, List.set_cons_succ]
      refine wpAnyH_take (i := 6) (v := ?_) (by (simp only [List.getElem?_toArray, List.getElem?_cons_succ, List.getElem?_cons_zero]; rfl)) (by kernel_rfl) (by kernel_rfl) (by kernel_rfl) (by intro _ _ _ h; exact h) (Or.inl ⟨by rfl, ?_⟩) (by assumption) ?_
      rotate_left
      · (intro w hSw; (try dsimp only at hSw); go_simp; try (with_reducible rfl))
      simp only [Act.put, List.setIfInBounds_toArray, List.set_cons_zero, List.set_cons_succ]
      refine wpAnyH_take (i := 7) (v := ?_) (by (simp only [List.getElem?_toArray, List.getElem?_cons_succ, List.getElem?_cons_zero]; rfl)) (by kernel_rfl) (by kernel_rfl) (by kernel_rfl) (by intro _ _ _ h; exact h) (Or.inl ⟨by rfl, ?_⟩) (by assumption) ?_
      rotate_left
      · (intro w hSw; (try dsimp only at hSw); go_simp; try (with_reducible rfl))
      simp only [Act.put, List.setIfInBounds_toArray, List.set_cons_zero, List.set_cons_succ]
      have hop := HC.out _ hHeld.2.2
      refine wpAnyH_ready (rs := [8]) (by kernel_rfl) (by simp) ?_
      refine AllReadyH.cons (by (simp only [List.getElem?_toArray, List.getElem?_cons_succ, List.getElem?_cons_zero]; rfl)) (fun K hK => ?_) AllReadyH.nil
      go_simp
      go_at_call 25; refine hop.mono ?_; rintro e w3 ⟨rfl, hb3⟩
      refine hK.out _ _ (by (try dsimp only); exact keepDD hHeld hb3) (fun hHeld => ?_)
      clear hK K
      try simp only [Act.put, List.setIfInBounds_toArray, List.set_cons_zero, List.set_cons_succ]
      refine wpAnyH_take (i := 9) (v := ?_) (by (simp only [List.getElem?_toArray, List.getElem?_cons_succ, List.getElem?_cons_zero]; rfl)) (by kernel_rfl) (by kernel_rfl) (by kernel_rfl) (by intro _ _ _ h; exact h) (Or.inl ⟨by rfl, ?_⟩) (by assumption) ?_
      rotate_left
      · (intro w hSw; (try dsimp only at hSw); go_simp; try (with_reducible rfl))
      simp only [Act.put, List.setIfInBounds_toArray, List.set_cons_zero, List.set_cons_succ]
      refine wpAnyH_done (by kernel_rfl) ?_ _
      have HB3 := Lib.hid (HB.out.trans (hHeld.2.2.mono HB.out.size))
      clear hHeld hop hb3 p q
      cases s
      · go_wp2
        go_ret
        exact ⟨ret_bool (sameL_no HX.out HY.out HS.out).symm, HB3.out⟩
      · go_wp2
        go_roundw
        case rel => exact ⟨k + 1, by omega, by go_num, (fun i a b hi ha hb => by
          by_cases e : i = k
          · subst e; rw [HX.out] at ha; rw [HY.out] at hb; cases ha; cases hb; exact HS.out
          · exact HALL.out i a b (by omega) ha hb), HB3.out⟩
        case measure => simp [intOf]; omega
    · have hle : (l.length : Int) ≤ k := by omega
      have hke : k = l.length := by omega
      have HKE := Lib.hid hke
      clear hke
      go_wp2
      go_ret
      exact ⟨ret_bool (sameL_yes HEQ.out fun i x y hx hy => HALL.out i x y (by rw [HKE.out]; exact (List.getElem?_eq_some_iff.1 hx).1) hx hy).symm, HB.out⟩
end Go.Proofs.Ytjkmmmmbdfcnbaa
