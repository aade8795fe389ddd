/-
  Layer 2: the answer's reader: blanks, want, name. Own work.
-/
import Derived.Test.YtldgjiohigiioaaRf2
import Derived.Test.YtldgjiohigiioaaRd2c
namespace Go.Proofs.Ytldgjiohigiioaa
set_option linter.unusedVariables false
set_option linter.unusedSimpArgs false
open Go.RowKit

theorem u8_ne2 {c d : UInt8} (h : c ≠ d) : ((c.toNat : Int) == d.toNat) = false := by
  rw [beq_eq_false_iff_ne]
  intro h2
  exact h (UInt8.toNat_inj.1 (by omega))
def offR (X : Nat) (w : World) : Nat := match w.cell? ⟨X, 1, none⟩ with | some (.int _ n) => n.toNat | _ => 0
theorem RR.off {w : World} {X : Nat} {l r : List UInt8} {c o : Int} (h : RR w X l r c o) : offR X w = l.length - r.length := by
  unfold offR
  rw [h.cells.2.1]
  simp
/-- what a method of the answer's reader ends with -/
def RfP {α : Type} (X : Nat) (l : List UInt8) (M : Rs α) (val : α → Value) (bad : Value) (w : World) (e : Ending) (w' : World) : Prop :=
  match M with
  | .ok a r => e = .returned (val a) ∧ RM X l r 0 0 w w'
  | .bad c r => e = .returned bad ∧ ∃ r', RM X l r' c ((l.length - r.length : Nat) : Int) w w'
set_option maxRecDepth 100000 in
set_option maxHeartbeats 4000000 in
theorem rblanks_at (X : Nat) (l r : List UInt8) (c o : Int) (hl : l.length ≤ 1000000) (w : World) (h : RR w X l r c o) :
    Calls Try.prog 43 #[.pointer (some ⟨X, 0, none⟩)] w fun e w' => e = .returned (.tuple #[]) ∧ RM X l (blanksM r) c o w w' := by
  have H := Lib.hid h
  clear h
  go_enter Try.func43, Try.ntmps43
  go_wp2_with fail
  go_loopw [] (fun wr => ∃ r', blanksM r' = blanksM r ∧ RM X l r' c o w wr) (fun wr => l.length - offR X wr)
  case atStart => exact ⟨r, rfl, RM.refl H.out⟩
  case round =>
    obtain ⟨r', hb, hm⟩ := hrel
    have HB := Lib.hid hb
    have HM := Lib.hid hm
    obtain ⟨c0, c1, c2, c3⟩ := hm.1.cells
    have hll := suf_len hm.1.1
    have hsz := size_str l
    clear hb
    cases r' with
    | nil =>
      have hn : decide (((l.length - ([] : List UInt8).length : Nat) : Int) < ((str l).size : Int)) = false := decide_eq_false (by rw [hsz]; simp)
      have hnN : decide (l.length - ([] : List UInt8).length < (str l).size) = false := decide_eq_false (by rw [hsz]; simp)
      generalize l.length - ([] : List UInt8).length = n at c1 hn hnN
      clear hm hll hsz
      go_upto_region 0 with fail
      go_quiet (fail)
      go_wp2
      go_end0
      exact ⟨rfl, by rw [← HB.out]; exact HM.out.trans (RM.drew HM.out.1 _)⟩
    | cons d r' =>
      have hn : decide (((l.length - (d :: r').length : Nat) : Int) < ((str l).size : Int)) = true := decide_eq_true (by rw [hsz]; simp at hll ⊢; omega)
      have hi := fun w => bidx2 (str l) (l.length - (d :: r').length) d (by rw [toList_str]; exact suf_at hm.1.1) w
      have hlt : l.length - (d :: r').length < (str l).size := by rw [hsz]; simp at hll ⊢; omega
      have HOFF := Lib.hid hm.1.off
      obtain ⟨n, hnn⟩ : ∃ n, n = l.length - (d :: r').length := ⟨_, rfl⟩
      rw [← hnn] at c1 hn hi hlt
      have HNN := Lib.hid hnn
      have C0 := Lib.hid (fun w1 (hb : Below wr.heap.size wr w1) => (hb.cell (World.block_lt_of_cell? wr _ c0)).trans c0)
      have C1 := Lib.hid (fun w1 (hb : Below wr.heap.size wr w1) => (hb.cell (World.block_lt_of_cell? wr _ c1)).trans c1)
      have HLL := Lib.hid hll
      have HSZ := Lib.hid hsz
      generalize hbl : bl d = b
      have HBL := Lib.hid hbl
      have HIS := Lib.hid (fun w => is_at (d.toNat : Int) 1 b (by decide) (by decide) (by rw [(cls_all _).1]; exact hbl) w)
      clear hm hll hsz hnn hbl c0 c1 c2 c3
      go_upto_region 0 with fail
      refine wp_region_held_drew (S := (fun w1 => Below wr.heap.size wr w1)) (by kernel_rfl) (by (try dsimp only); exact (Below.refl _ _).drew) (fun hHeld => ?_)
      generalize wr.drew = wd at hHeld ⊢
      refine wpAnyH_take (i := 0) (v := ?_) (by (simp only [List.getElem?_toArray, List.getElem?_cons_succ, List.getElem?_cons_zero]; rfl)) (by kernel_rfl) (by kernel_rfl) (by kernel_rfl) (by intro _ _ _ h; exact h) (Or.inl ⟨by rfl, ?_⟩) (by assumption) ?_
      rotate_left
      · (intro w hSw; (try dsimp only at hSw); go_simp; try (with_reducible rfl))
      simp only [Act.put, List.setIfInBounds_toArray, List.set_cons_zero, List.set_cons_succ]
      refine wpAnyH_take (i := 1) (v := ?_) (by (simp only [List.getElem?_toArray, List.getElem?_cons_succ, List.getElem?_cons_zero]; rfl)) (by kernel_rfl) (by kernel_rfl) (by kernel_rfl) (by intro _ _ _ h; exact h) (Or.inl ⟨by rfl, ?_⟩) (by assumption) ?_
      rotate_left
      · (intro w hSw; (try dsimp only at hSw); go_simp; try (with_reducible rfl))
      simp only [Act.put, List.setIfInBounds_toArray, List.set_cons_zero, List.set_cons_succ]
      refine wpAnyH_take (i := 2) (v := ?_) (by (simp only [List.getElem?_toArray, List.getElem?_cons_succ, List.getElem?_cons_zero]; rfl)) (by kernel_rfl) (by kernel_rfl) (by kernel_rfl) (by intro _ _ _ h; exact h) (Or.inl ⟨by rfl, ?_⟩) (by assumption) ?_
      rotate_left
      · (intro w hSw; (try dsimp only at hSw); go_simp; try (with_reducible rfl))
      simp only [Act.put, List.setIfInBounds_toArray, List.set_cons_zero, List.set_cons_succ]
      refine wpAnyH_take (i := 3) (v := ?_) (by (simp only [List.getElem?_toArray, List.getElem?_cons_succ, List.getElem?_cons_zero]; rfl)) (by kernel_rfl) (by kernel_rfl) (by kernel_rfl) (by intro _ _ _ h; exact h) (Or.inl ⟨by rfl, ?_⟩) (by assumption) ?_
      rotate_left
      · (intro w hSw; have q1 := C1.out w hSw; go_simp; try (with_reducible rfl))
      simp only [Act.put, List.setIfInBounds_toArray, List.set_cons_zero, List.set_cons_succ]
      refine wpAnyH_take (i := 4) (v := ?_) (by (simp only [List.getElem?_toArray, List.getElem?_cons_succ, List.getElem?_cons_zero]; rfl)) (by kernel_rfl) (by kernel_rfl) (by kernel_rfl) (by intro _ _ _ h; exact h) (Or.inl ⟨by rfl, ?_⟩) (by assumption) ?_
      rotate_left
      · (intro w hSw; (try dsimp only at hSw); go_simp; try (with_reducible rfl))
      simp only [Act.put, List.setIfInBounds_toArray, List.set_cons_zero, List.set_cons_succ]
      refine wpAnyH_take (i := 5) (v := ?_) (by (simp only [List.getElem?_toArray, List.getElem?_cons_succ, List.getElem?_cons_zero]; rfl)) (by kernel_rfl) (by kernel_rfl) (by kernel_rfl) (by intro _ _ _ h; exact h) (Or.inl ⟨by rfl, ?_⟩) (by assumption) ?_
      rotate_left
      · (intro w hSw; (try dsimp only at hSw); go_simp; try (with_reducible rfl))
      simp only [Act.put, List.setIfInBounds_toArray, List.set_cons_zero, List.set_cons_succ]
      refine wpAnyH_take (i := 6) (v := ?_) (by (simp only [List.getElem?_toArray, List.getElem?_cons_succ, List.getElem?_cons_zero]; rfl)) (by kernel_rfl) (by kernel_rfl) (by kernel_rfl) (by intro _ _ _ h; exact h) (Or.inl ⟨by rfl, ?_⟩) (by assumption) ?_
      rotate_left
      · (intro w hSw; (try dsimp only at hSw); go_simp; try (with_reducible rfl))
      simp only [Act.put, List.setIfInBounds_toArray, List.set_cons_zero, List.set_cons_succ]
      refine wpAnyH_take (i := 7) (v := ?_) (by (simp only [List.getElem?_toArray, List.getElem?_cons_succ, List.getElem?_cons_zero]; rfl)) (by kernel_rfl) (by kernel_rfl) (by kernel_rfl) (by intro _ _ _ h; exact h) (Or.inl ⟨by rfl, ?_⟩) (by assumption) ?_
      rotate_left
      · (intro w hSw; have q1 := C0.out w hSw; go_simp; try (with_reducible rfl))
      simp only [Act.put, List.setIfInBounds_toArray, List.set_cons_zero, List.set_cons_succ]
      refine wpAnyH_take (i := 8) (v := ?_) (by (simp only [List.getElem?_toArray, List.getElem?_cons_succ, List.getElem?_cons_zero]; rfl)) (by kernel_rfl) (by kernel_rfl) (by kernel_rfl) (by intro _ _ _ h; exact h) (Or.inl ⟨by rfl, ?_⟩) (by assumption) ?_
      rotate_left
      · (intro w hSw; (try dsimp only at hSw); go_simp; try (with_reducible rfl))
      simp only [Act.put, List.setIfInBounds_toArray, List.set_cons_zero, List.set_cons_succ]
      refine wpAnyH_take (i := 9) (v := ?_) (by (simp only [List.getElem?_toArray, List.getElem?_cons_succ, List.getElem?_cons_zero]; rfl)) (by kernel_rfl) (by kernel_rfl) (by kernel_rfl) (by intro _ _ _ h; exact h) (Or.inl ⟨by rfl, ?_⟩) (by assumption) ?_
      rotate_left
      · (intro w hSw; (try dsimp only at hSw); go_simp; try (with_reducible rfl))
      simp only [Act.put, List.setIfInBounds_toArray, List.set_cons_zero, List.set_cons_succ]
      refine wpAnyH_take (i := 10) (v := ?_) (by (simp only [List.getElem?_toArray, List.getElem?_cons_succ, List.getElem?_cons_zero]; rfl)) (by kernel_rfl) (by kernel_rfl) (by kernel_rfl) (by intro _ _ _ h; exact h) (Or.inl ⟨by rfl, ?_⟩) (by assumption) ?_
      rotate_left
      · (intro w hSw; (try dsimp only at hSw); go_simp; try (with_reducible rfl))
      simp only [Act.put, List.setIfInBounds_toArray, List.set_cons_zero, List.set_cons_succ]
      refine wpAnyH_take (i := 11) (v := ?_) (by (simp only [List.getElem?_toArray, List.getElem?_cons_succ, List.getElem?_cons_zero]; rfl)) (by kernel_rfl) (by kernel_rfl) (by kernel_rfl) (by intro _ _ _ h; exact h) (Or.inl ⟨by rfl, ?_⟩) (by assumption) ?_
      rotate_left
      · (intro w hSw; (try dsimp only at hSw); go_simp; try (with_reducible rfl))
      simp only [Act.put, List.setIfInBounds_toArray, List.set_cons_zero, List.set_cons_succ]
      refine wpAnyH_take (i := 12) (v := ?_) (by (simp only [List.getElem?_toArray, List.getElem?_cons_succ, List.getElem?_cons_zero]; rfl)) (by kernel_rfl) (by kernel_rfl) (by kernel_rfl) (by intro _ _ _ h; exact h) (Or.inl ⟨by rfl, ?_⟩) (by assumption) ?_
      rotate_left
      · (intro w hSw; (try dsimp only at hSw); go_simp; try (with_reducible rfl))
      simp only [Act.put, List.setIfInBounds_toArray, List.set_cons_zero, List.set_cons_succ]
      refine wpAnyH_take (i := 13) (v := ?_) (by (simp only [List.getElem?_toArray, List.getElem?_cons_succ, List.getElem?_cons_zero]; rfl)) (by kernel_rfl) (by kernel_rfl) (by kernel_rfl) (by intro _ _ _ h; exact h) (Or.inl ⟨by rfl, ?_⟩) (by assumption) ?_
      rotate_left
      · (intro w hSw; (try dsimp only at hSw); go_simp; try (with_reducible rfl))
      simp only [Act.put, List.setIfInBounds_toArray, List.set_cons_zero, List.set_cons_succ]
      refine wpAnyH_take (i := 14) (v := ?_) (by (simp only [List.getElem?_toArray, List.getElem?_cons_succ, List.getElem?_cons_zero]; rfl)) (by kernel_rfl) (by kernel_rfl) (by kernel_rfl) (by intro _ _ _ h; exact h) (Or.inl ⟨by rfl, ?_⟩) (by assumption) ?_
      rotate_left
      · (intro w hSw; have q1 := C0.out w hSw; go_simp; try (with_reducible rfl))
      simp only [Act.put, List.setIfInBounds_toArray, List.set_cons_zero, List.set_cons_succ]
      refine wpAnyH_take (i := 15) (v := ?_) (by (simp only [List.getElem?_toArray, List.getElem?_cons_succ, List.getElem?_cons_zero]; rfl)) (by kernel_rfl) (by kernel_rfl) (by kernel_rfl) (by intro _ _ _ h; exact h) (Or.inl ⟨by rfl, ?_⟩) (by assumption) ?_
      rotate_left
      · (intro w hSw; (try dsimp only at hSw); go_simp; try (with_reducible rfl))
      simp only [Act.put, List.setIfInBounds_toArray, List.set_cons_zero, List.set_cons_succ]
      refine wpAnyH_take (i := 16) (v := ?_) (by (simp only [List.getElem?_toArray, List.getElem?_cons_succ, List.getElem?_cons_zero]; rfl)) (by kernel_rfl) (by kernel_rfl) (by kernel_rfl) (by intro _ _ _ h; exact h) (Or.inl ⟨by rfl, ?_⟩) (by assumption) ?_
      rotate_left
      · (intro w hSw; (try dsimp only at hSw); go_simp; try (with_reducible rfl))
      simp only [Act.put, List.setIfInBounds_toArray, List.set_cons_zero, List.set_cons_succ]
      refine wpAnyH_take (i := 17) (v := ?_) (by (simp only [List.getElem?_toArray, List.getElem?_cons_succ, List.getElem?_cons_zero]; rfl)) (by kernel_rfl) (by kernel_rfl) (by kernel_rfl) (by intro _ _ _ h; exact h) (Or.inl ⟨by rfl, ?_⟩) (by assumption) ?_
      rotate_left
      · (intro w hSw; (try dsimp only at hSw); go_simp; try (with_reducible rfl))
      simp only [Act.put, List.setIfInBounds_toArray, List.set_cons_zero, List.set_cons_succ]
      refine wpAnyH_take (i := 18) (v := ?_) (by (simp only [List.getElem?_toArray, List.getElem?_cons_succ, List.getElem?_cons_zero]; rfl)) (by kernel_rfl) (by kernel_rfl) (by kernel_rfl) (by intro _ _ _ h; exact h) (Or.inl ⟨by rfl, ?_⟩) (by assumption) ?_
      rotate_left
      · (intro w hSw; have q1 := C1.out w hSw; go_simp; try (with_reducible rfl))
      simp only [Act.put, List.setIfInBounds_toArray, List.set_cons_zero, List.set_cons_succ]
      refine wpAnyH_take (i := 19) (v := ?_) (by (simp only [List.getElem?_toArray, List.getElem?_cons_succ, List.getElem?_cons_zero]; rfl)) (by kernel_rfl) (by kernel_rfl) (by kernel_rfl) (by intro _ _ _ h; exact h) (Or.inl ⟨by rfl, ?_⟩) (by assumption) ?_
      rotate_left
      · (intro w hSw; (try dsimp only at hSw); go_simp; try (with_reducible rfl))
      simp only [Act.put, List.setIfInBounds_toArray, List.set_cons_zero, List.set_cons_succ]
      refine wpAnyH_ready (rs := [20]) (by kernel_rfl) (by simp) ?_
      refine AllReadyH.cons (by (simp only [List.getElem?_toArray, List.getElem?_cons_succ, List.getElem?_cons_zero]; rfl)) (fun K hK => ?_) AllReadyH.nil
      go_simp
      go_at_call 21; refine (HIS.out _).mono ?_; rintro e w6 ⟨rfl, hw6⟩
      refine hK.out _ _ (by (try dsimp only); rw [hw6]; exact hHeld) (fun hHeld => ?_)
      clear hK K
      try simp only [Act.put, List.setIfInBounds_toArray, List.set_cons_zero, List.set_cons_succ]
      clear hw6
      refine wpAnyH_take (i := 21) (v := ?_) (by (simp only [List.getElem?_toArray, List.getElem?_cons_succ, List.getElem?_cons_zero]; rfl)) (by kernel_rfl) (by kernel_rfl) (by kernel_rfl) (by intro _ _ _ h; exact h) (Or.inl ⟨by rfl, ?_⟩) (by assumption) ?_
      rotate_left
      · (intro w hSw; (try dsimp only at hSw); go_simp; try (with_reducible rfl))
      simp only [Act.put, List.setIfInBounds_toArray, List.set_cons_zero, List.set_cons_succ]
      refine wpAnyH_done (by kernel_rfl) ?_ _
      have hr6 := HM.out.1.below hHeld
      have HM6 := Lib.hid (HM.out.trans (RM.below HM.out.1 hHeld))
      clear hHeld hn hi
      obtain ⟨c0, c1, c2, c3⟩ := hr6.cells
      rw [← HNN.out] at c1
      have f1 := hr6.frozen 1
      have hnI : (n : Int) ≤ 1000000 := by have := HSZ.out; omega
      clear hr6
      cases b
      case true =>
        have hsuf : r' <:+ l := (List.suffix_cons d r').trans HM6.out.1.1
        have HP := Lib.hid (RM.put HM6.out.1 hsuf ((n : Int) + 1) (by
          have h1 := HNN.out
          have h2 := HLL.out
          rw [h1]; simp at h2 ⊢; omega))
        have HO := Lib.hid (show l.length - offR X (w6.setCell ⟨X, 1, none⟩ (.int .i64 ((n : Int) + 1))) < l.length - offR X wr by
          rw [HP.out.1.off, HOFF.out]
          have h2 := HLL.out
          simp at h2 ⊢
          omega)
        clear hsuf hlt
        go_wp2
        go_roundw
        case rel => exact ⟨r', by rw [← HB.out]; unfold blanksM; rw [List.dropWhile_cons, if_pos HBL.out], HM6.out.trans HP.out⟩
        case measure => exact HO.out
      case false =>
        clear hlt
        go_wp2
        go_end0
        refine ⟨rfl, ?_⟩
        have : blanksM r = d :: r' := by rw [← HB.out]; unfold blanksM; rw [List.dropWhile_cons, if_neg (by rw [HBL.out]; simp)]
        rw [this]
        exact HM6.out
set_option maxHeartbeats 2000000 in
theorem rwant_bad (X : Nat) (l r : List UInt8) (c o : Int) (b : Int) (hc : (c == 0) = false) (w : World) (h : RR w X l r c o) :
    Calls Try.prog 44 #[.pointer (some ⟨X, 0, none⟩), .int .u8 b] w fun e w' => e = .returned (.tuple #[]) ∧ RM X l r c o w w' := by
  have HE := Lib.hid (rend_bad X l r c o hc w h)
  clear h
  go_enter Try.func44, Try.ntmps44
  go_wp2_with fail
  refine HE.out.mono ?_
  rintro e w2 ⟨rfl, hm⟩
  have HM := Lib.hid hm
  clear hm
  go_wp2
  (try simp only [Exit.inBlock, Exit.then]); refine bodyPost_ret (results_none rfl _ _ _) rfl ?_
  exact ⟨rfl, HM.out⟩
set_option maxHeartbeats 2000000 in
theorem rwant_at (X : Nat) (l r : List UInt8) (b : UInt8) (hl : l.length ≤ 1000000) (w : World) (h : RR w X l r 0 0) :
    Calls Try.prog 44 #[.pointer (some ⟨X, 0, none⟩), .int .u8 (b.toNat : Int)] w (RfP X l (mustM b r) (fun _ => .tuple #[]) (.tuple #[]) w) := by
  have HE := Lib.hid (rend_ok X l r w h)
  have HLL := Lib.hid (suf_len h.1)
  clear h
  go_enter Try.func44, Try.ntmps44
  cases r with
  | nil =>
    go_wp2_with fail
    refine HE.out.mono ?_
    rintro e w2 ⟨rfl, hm, _⟩
    have HM := Lib.hid (hm rfl)
    clear hm
    dsimp only [List.isEmpty]
    go_wp2
    (try simp only [Exit.inBlock, Exit.then]); refine bodyPost_ret (results_none rfl _ _ _) rfl ?_
    exact ⟨rfl, [], HM.out⟩
  | cons d r =>
    go_wp2_with fail
    refine HE.out.mono ?_
    rintro e w2 ⟨rfl, _, hm⟩
    have HM := Lib.hid (hm (by simp))
    have HA := Lib.hid (rat_some X l (d :: r) 0 0 0 d rfl hl w2 HM.out.1)
    clear hm
    dsimp only [List.isEmpty]
    go_wp2_with fail
    refine HA.out.mono ?_
    rintro e w3 ⟨rfl, hm3⟩
    have HM3 := Lib.hid (HM.out.trans hm3)
    obtain ⟨c0, c1, c2, c3⟩ := hm3.1.cells
    have f1 := hm3.1.frozen 1
    obtain ⟨n, hnn⟩ : ∃ n, n = l.length - (d :: r).length := ⟨_, rfl⟩
    rw [← hnn] at c1
    have HNN := Lib.hid hnn
    have hnI : (n : Int) ≤ 1000000 := by omega
    clear hm3 hnn
    by_cases hd : d = b
    · have hq : ((d.toNat : Int) != (b.toNat : Int)) = false := by rw [hd]; simp
      have HMM := Lib.hid (show mustM b (d :: r) = .ok () r by rw [mustM, if_pos hd])
      have hsuf : r <:+ l := (List.suffix_cons d r).trans HM3.out.1.1
      have HP := Lib.hid (RM.put HM3.out.1 hsuf ((n : Int) + 1) (by
        have h1 := HNN.out
        have h2 := HLL.out
        rw [h1]; simp at h2 ⊢; omega))
      clear hd hsuf
      go_wp2
      go_end0
      rw [HMM.out]
      exact ⟨rfl, HM3.out.trans HP.out⟩
    · have hq : ((d.toNat : Int) != (b.toNat : Int)) = true := by rw [bne, u8_ne2 hd]; rfl
      have HMM := Lib.hid (show mustM b (d :: r) = .bad 10 (d :: r) by rw [mustM, if_neg hd])
      have HF := Lib.hid (rfail_yes X l (d :: r) 0 10 (n : Int) w3 HM3.out.1)
      clear hd
      go_wp2_with fail
      refine HF.out.mono ?_
      rintro e w4 ⟨rfl, hm4⟩
      have HM4 := Lib.hid (HM3.out.trans hm4)
      clear hm4
      go_wp2
      (try simp only [Exit.inBlock, Exit.then]); refine bodyPost_ret (results_none rfl _ _ _) rfl ?_
      rw [HMM.out]
      exact ⟨rfl, d :: r, by rw [← HNN.out]; exact HM4.out⟩
set_option maxHeartbeats 2000000 in
theorem rname_at (X : Nat) (l r : List UInt8) (e0 : Int) (hl : l.length ≤ 1000000) (w : World) (h : RR w X l r 0 0) :
    Calls Try.prog 42 #[.pointer (some ⟨X, 0, none⟩), .int .i64 e0] w (RfP X l (nameM e0 r) (fun n => .string (str n)) (.string (str [])) w) := by
  have HE := Lib.hid (rend_ok X l r w h)
  have HLL := Lib.hid (suf_len h.1)
  have HSUF := Lib.hid h.1
  clear h
  go_enter Try.func42, Try.ntmps42
  by_cases hr : r = []
  · subst hr
    go_wp2_with fail
    refine HE.out.mono ?_
    rintro e w2 ⟨rfl, hm, _⟩
    have HM := Lib.hid (hm rfl)
    clear hm
    dsimp only [List.isEmpty]
    go_wp2
    go_ret
    exact ⟨rfl, [], HM.out⟩
  have hie : r.isEmpty = false := by simpa using hr
  go_wp2_with fail
  refine HE.out.mono ?_
  rintro e w2 ⟨rfl, _, hm⟩
  have HM := Lib.hid (hm hr)
  clear hm
  rw [hie]
  obtain ⟨c0, c1, c2, c3⟩ := HM.out.1.cells
  have hsz := size_str l
  have hll := HLL.out
  have hx := ext_suf HSUF.out
  have hle : ((l.length - r.length : Nat) : Int) ≤ ((str l).size : Int) := by omega
  have hle2 : l.length - r.length ≤ (str l).size := by omega
  obtain ⟨n, hn⟩ : ∃ n, n = l.length - r.length := ⟨_, rfl⟩
  rw [← hn] at c1 hx hle hle2
  have HN := Lib.hid hn
  have C0 := Lib.hid (fun w1 (hb : Below w2.heap.size w2 w1) => (hb.cell (World.block_lt_of_cell? w2 _ c0)).trans c0)
  have C1 := Lib.hid (fun w1 (hb : Below w2.heap.size w2 w1) => (hb.cell (World.block_lt_of_cell? w2 _ c1)).trans c1)
  have HRN := Lib.hid (fun w => refName_any (str r) (by rw [size_str]; omega) w)
  have HR := Lib.hid hr
  have HSZ := Lib.hid hsz
  clear hn hll hsz c0 c1 c2 c3 hr
  go_upto_region 3 with fail
  refine wp_region_held_drew (S := (fun w1 => Below w2.heap.size w2 w1)) (by kernel_rfl) (by (try dsimp only); exact (Below.refl _ _).drew) (fun hHeld => ?_)
  generalize w2.drew = wd at hHeld ⊢
  refine wpAnyH_take (i := 0) (v := ?_) (by (simp only [List.getElem?_toArray, List.getElem?_cons_succ, List.getElem?_cons_zero]; rfl)) (by kernel_rfl) (by kernel_rfl) (by kernel_rfl) (by intro _ _ _ h; exact h) (Or.inl ⟨by rfl, ?_⟩) (by assumption) ?_
  rotate_left
  · (intro w hSw; (try dsimp only at hSw); go_simp; try (with_reducible rfl))
  simp only [Act.put, List.setIfInBounds_toArray, List.set_cons_zero, List.set_cons_succ]
  refine wpAnyH_take (i := 1) (v := ?_) (by (simp only [List.getElem?_toArray, List.getElem?_cons_succ, List.getElem?_cons_zero]; rfl)) (by kernel_rfl) (by kernel_rfl) (by kernel_rfl) (by intro _ _ _ h; exact h) (Or.inl ⟨by rfl, ?_⟩) (by assumption) ?_
  rotate_left
  · (intro w hSw; (try dsimp only at hSw); go_simp; try (with_reducible rfl))
  simp only [Act.put, List.setIfInBounds_toArray, List.set_cons_zero, List.set_cons_succ]
  refine wpAnyH_take (i := 2) (v := ?_) (by (simp only [List.getElem?_toArray, List.getElem?_cons_succ, List.getElem?_cons_zero]; rfl)) (by kernel_rfl) (by kernel_rfl) (by kernel_rfl) (by intro _ _ _ h; exact h) (Or.inl ⟨by rfl, ?_⟩) (by assumption) ?_
  rotate_left
  · (intro w hSw; (try dsimp only at hSw); go_simp; try (with_reducible rfl))
  simp only [Act.put, List.setIfInBounds_toArray, List.set_cons_zero, List.set_cons_succ]
  refine wpAnyH_take (i := 3) (v := ?_) (by (simp only [List.getElem?_toArray, List.getElem?_cons_succ, List.getElem?_cons_zero]; rfl)) (by kernel_rfl) (by kernel_rfl) (by kernel_rfl) (by intro _ _ _ h; exact h) (Or.inl ⟨by rfl, ?_⟩) (by assumption) ?_
  rotate_left
  · (intro w hSw; have q1 := C0.out w hSw; go_simp; try (with_reducible rfl))
  simp only [Act.put, List.setIfInBounds_toArray, List.set_cons_zero, List.set_cons_succ]
  refine wpAnyH_take (i := 4) (v := ?_) (by (simp only [List.getElem?_toArray, List.getElem?_cons_succ, List.getElem?_cons_zero]; rfl)) (by kernel_rfl) (by kernel_rfl) (by kernel_rfl) (by intro _ _ _ h; exact h) (Or.inl ⟨by rfl, ?_⟩) (by assumption) ?_
  rotate_left
  · (intro w hSw; (try dsimp only at hSw); go_simp; try (with_reducible rfl))
  simp only [Act.put, List.setIfInBounds_toArray, List.set_cons_zero, List.set_cons_succ]
  refine wpAnyH_take (i := 5) (v := ?_) (by (simp only [List.getElem?_toArray, List.getElem?_cons_succ, List.getElem?_cons_zero]; rfl)) (by kernel_rfl) (by kernel_rfl) (by kernel_rfl) (by intro _ _ _ h; exact h) (Or.inl ⟨by rfl, ?_⟩) (by assumption) ?_
  rotate_left
  · (intro w hSw; (try dsimp only at hSw); go_simp; try (with_reducible rfl))
  simp only [Act.put, List.setIfInBounds_toArray, List.set_cons_zero, List.set_cons_succ]
  refine wpAnyH_take (i := 6) (v := ?_) (by (simp only [List.getElem?_toArray, List.getElem?_cons_succ, List.getElem?_cons_zero]; rfl)) (by kernel_rfl) (by kernel_rfl) (by kernel_rfl) (by intro _ _ _ h; exact h) (Or.inl ⟨by rfl, ?_⟩) (by assumption) ?_
  rotate_left
  · (intro w hSw; (try dsimp only at hSw); go_simp; try (with_reducible rfl))
  simp only [Act.put, List.setIfInBounds_toArray, List.set_cons_zero, List.set_cons_succ]
  refine wpAnyH_take (i := 7) (v := ?_) (by (simp only [List.getElem?_toArray, List.getElem?_cons_succ, List.getElem?_cons_zero]; rfl)) (by kernel_rfl) (by kernel_rfl) (by kernel_rfl) (by intro _ _ _ h; exact h) (Or.inl ⟨by rfl, ?_⟩) (by assumption) ?_
  rotate_left
  · (intro w hSw; have q1 := C1.out w hSw; go_simp; try (with_reducible rfl))
  simp only [Act.put, List.setIfInBounds_toArray, List.set_cons_zero, List.set_cons_succ]
  refine wpAnyH_take (i := 8) (v := ?_) (by (simp only [List.getElem?_toArray, List.getElem?_cons_succ, List.getElem?_cons_zero]; rfl)) (by kernel_rfl) (by kernel_rfl) (by kernel_rfl) (by intro _ _ _ h; exact h) (Or.inl ⟨by rfl, ?_⟩) (by assumption) ?_
  rotate_left
  · (intro w hSw; (try dsimp only at hSw); go_simp; try (with_reducible rfl))
  simp only [Act.put, List.setIfInBounds_toArray, List.set_cons_zero, List.set_cons_succ]
  refine wpAnyH_ready (rs := [9]) (by kernel_rfl) (by simp) ?_
  refine AllReadyH.cons (by (simp only [List.getElem?_toArray, List.getElem?_cons_succ, List.getElem?_cons_zero]; rfl)) (fun K hK => ?_) AllReadyH.nil
  go_simp
  go_at_call 20; refine (HRN.out _).mono ?_; rintro e w6 ⟨m6, rfl, hn6, hw6⟩
  refine hK.out _ _ (by (try dsimp only); rw [hw6]; exact hHeld) (fun hHeld => ?_)
  clear hK K
  try simp only [Act.put, List.setIfInBounds_toArray, List.set_cons_zero, List.set_cons_succ]
  clear hw6
  refine wpAnyH_take (i := 10) (v := ?_) (by (simp only [List.getElem?_toArray, List.getElem?_cons_succ, List.getElem?_cons_zero]; rfl)) (by kernel_rfl) (by kernel_rfl) (by kernel_rfl) (by intro _ _ _ h; exact h) (Or.inl ⟨by rfl, ?_⟩) (by assumption) ?_
  rotate_left
  · (intro w hSw; (try dsimp only at hSw); go_simp; try (with_reducible rfl))
  simp only [Act.put, List.setIfInBounds_toArray, List.set_cons_zero, List.set_cons_succ]
  refine wpAnyH_done (by kernel_rfl) ?_ _
  have hr6 := HM.out.1.below hHeld
  have HM6 := Lib.hid (HM.out.trans (RM.below HM.out.1 hHeld))
  clear hHeld hx hle hle2
  have hnn := name_one hn6 (nameL_is r)
  have hnl := nameL_le r
  clear hn6
  subst hnn
  generalize hq : nameL r = m at hnl
  have HQ := Lib.hid hq
  clear hq
  obtain ⟨c0, c1, c2, c3⟩ := hr6.cells
  have f1 := hr6.frozen 1
  have hrow := hr6.2
  rw [← HN.out] at c1 hrow
  have hnI : (n : Int) ≤ 1000000 := by have := HN.out; omega
  have hmI : (m : Int) ≤ 1000000 := by have := HLL.out; omega
  by_cases h0 : m = 0
  · have HMM := Lib.hid (show nameM e0 r = .bad e0 r by unfold nameM; rw [if_neg HR.out, if_pos (by rw [HQ.out]; exact h0)])
    subst h0
    have HF := Lib.hid (rfail_yes X l r 0 e0 (n : Int) w6 hr6)
    clear hr6 hrow
    go_wp2_with fail
    refine HF.out.mono ?_
    rintro e w7 ⟨rfl, hm7⟩
    have HM7 := Lib.hid (HM6.out.trans hm7)
    clear hm7
    go_wp2
    go_ret
    rw [HMM.out]
    exact ⟨rfl, r, by rw [← HN.out]; exact HM7.out⟩
  · have HMM := Lib.hid (show nameM e0 r = .ok (r.take m) (r.drop m) by unfold nameM; rw [if_neg HR.out, if_neg (by rw [HQ.out]; exact h0), HQ.out])
    have hne : ((m : Int) == 0) = false := by rw [beq_eq_false_iff_ne]; omega
    have hsuf : r.drop m <:+ l := (List.drop_suffix m r).trans HSUF.out
    have hp := RM.put hr6 hsuf ((n : Int) + (m : Int)) (by have h1 := HN.out; have h2 := HLL.out; rw [h1, List.length_drop]; omega)
    have HP := Lib.hid hp
    clear hr6 h0 hrow hsuf
    go_upto_region 8 with fail
    generalize w6.setCell ⟨X, 1, none⟩ (.int .i64 ((n : Int) + (m : Int))) = w7 at hp HP ⊢
    clear c0 c1 c2 c3 f1
    obtain ⟨c0, c1, c2, c3⟩ := hp.1.cells
    have he7 : ((l.length - (r.drop m).length : Nat) : Int) = (n : Int) + (m : Int) := by have h1 := HN.out; have h2 := HLL.out; rw [h1, List.length_drop]; omega
    rw [he7] at c1
    have hsl : ∀ w, (Instr.slice 9 (.string (str l)) (some (.int .i64 (n : Int))) (some (.int .i64 ((n : Int) + (m : Int)))) none).run Try.prog w = .ok (.string (str (r.take m))) w := fun w => by
      have h1 := HN.out
      have h2 := HLL.out
      have h3 := HSZ.out
      rw [run_slice_string w 9 _ _ _ _ _ Try.underlying9 (by omega) (by omega) (by omega)]
      have : (str l).extract (n : Int).toNat ((n : Int) + (m : Int)).toNat = str (r.take m) := by
        rw [ext_str, toList_str, show ((n : Int) + (m : Int)).toNat = n + m by omega, Int.toNat_natCast, List.drop_take, h1, suf_drop HSUF.out]
        congr 2
        omega
      rw [this]
    have hw1 : (n : Int) + (m : Int) - (m : Int) = (n : Int) := by omega
    clear hp he7 hnl
    go_quiet (fail)
    go_wp2
    go_ret
    rw [HMM.out]
    exact ⟨rfl, HM6.out.trans (HP.out.trans (RM.drew HP.out.1 _))⟩
end Go.Proofs.Ytldgjiohigiioaa
