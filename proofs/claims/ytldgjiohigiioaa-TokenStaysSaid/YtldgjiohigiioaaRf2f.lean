/-
  Layer 2: the answer's reader: attrs. Own work.
-/
import Derived.Test.YtldgjiohigiioaaRf2e
namespace Go.Proofs.Ytldgjiohigiioaa
set_option linter.unusedVariables false
set_option linter.unusedSimpArgs false
open Go.RowKit

theorem nm_len {e0 : Int} {r n r1 : List UInt8} (h : nameM e0 r = .ok n r1) : r1.length ≤ r.length := ok_len h (name_left e0 r)
theorem rattrs_bad (X : Nat) (l r : List UInt8) (c o : Int) (hc : (c == 0) = false) (w : World) (h : RR w X l r c o) :
    Calls Try.prog 45 #[.pointer (some ⟨X, 0, none⟩)] w fun e w' => e = .returned (.slice none 0 0) ∧ w' = w := by
  obtain ⟨c0, c1, c2, c3⟩ := h.cells
  clear h
  go_enter Try.func45, Try.ntmps45
  go_wp2_with fail
  go_loopw [3] (fun v wr => v = .slice none 0 0 ∧ wr = w) (fun _ _ => 0)
  case atStart => exact ⟨rfl, rfl⟩
  case round =>
    obtain ⟨rfl, rfl⟩ := hrel
    go_wp2
    go_ret
    exact ⟨rfl, rfl⟩
set_option maxRecDepth 100000 in
set_option maxHeartbeats 8000000 in
theorem rattrs_at (X : Nat) (l r : List UInt8) (hl : l.length ≤ 1000000) (w : World) (h : RR w X l r 0 0) :
    Calls Try.prog 45 #[.pointer (some ⟨X, 0, none⟩)] w (RfA X l (attrsR (r.length + 1) [] r) w) := by
  have HS := Lib.hid (show RA w X l r 0 0 [] (.slice none 0 0) w from ⟨h, FrX.refl _ _ _, World.ownsRow_nil _ _ _ _, h.lt⟩)
  have HLL := Lib.hid (suf_len h.1)
  have HSZ := Lib.hid (size_str l)
  clear h
  go_enter Try.func45, Try.ntmps45
  go_wp2_with fail
  go_loopw [3] (fun v wr => ∃ ats r' f, r'.length < f ∧ attrsR f ats r' = attrsR (r.length + 1) [] r ∧ ats.length + r'.length ≤ r.length ∧ RA w X l r' 0 0 ats v wr) (fun _ wr => l.length - offR X wr)
  case atStart => exact ⟨[], r, r.length + 1, by omega, rfl, by simp, HS.out⟩
  case round =>
    obtain ⟨ats, r', f, hf, hmod, hlen, ha⟩ := hrel
    obtain ⟨g, hg⟩ : ∃ g, f = g + 1 := ⟨f - 1, by omega⟩
    subst hg
    have HMOD := Lib.hid hmod
    have HLEN := Lib.hid hlen
    have HG := Lib.hid hf
    have HA := Lib.hid ha
    have HLL' := Lib.hid (suf_len ha.rr.1)
    have HOFF := Lib.hid ha.rr.off
    obtain ⟨aa, ac, hv⟩ := RdSl.shape ha.rd
    subst hv
    have hla := RdSl.len ha.rd
    have hlaI : (ats.length : Int) ≤ 9223372036854775807 := by omega
    obtain ⟨c0, c1, c2, c3⟩ := ha.rr.cells
    have hn0I : ((l.length - r'.length : Nat) : Int) ≤ 1000000 := by omega
    obtain ⟨n0, hn0⟩ : ∃ n0, n0 = l.length - r'.length := ⟨_, rfl⟩
    rw [← hn0] at c1 hn0I
    have HN0 := Lib.hid hn0
    clear hn0 hf hmod hlen ha hla
    have HBL := Lib.hid (rblanks_at X l r' 0 0 hl _ HA.out.rr)
    go_upto_region 4 with fail
    clear c0 c1 c2 c3
    go_wp2_with fail
    refine HBL.out.mono ?_
    rintro e w2 ⟨rfl, hm2⟩
    have HA2 := Lib.hid (HA.out.mv hm2)
    clear hm2 HBL
    go_upto_region 5 with fail
    go_cut [49] from 10 to 129 (fun t wx => ∃ r2, RA w X l r2 0 0 ats (.slice aa ats.length ac) wx ∧ ((t = .bool true ∧ attrsR (r.length + 1) [] r = .ok ats r2) ∨ (t = .bool false ∧ ∃ c r3, r2 = c :: r3 ∧ r2.length < r'.length ∧ (attrM ats r2).bind (fun a r4 => attrsR g (ats ++ [a]) r4) = attrsR (r.length + 1) [] r)))
    case first =>
      obtain ⟨c0, c1, c2, c3⟩ := HA2.out.rr.cells
      have hsz := HSZ.out
      have hll := HLL'.out
      have hbl := blanks_len r'
      by_cases hb : blanksM r' = r'
      · have HFIN := Lib.hid (show attrsR (r.length + 1) [] r = .ok ats (blanksM r') by rw [← HMOD.out, attrsR, if_pos hb, hb])
        have hnn : l.length - (blanksM r').length = n0 := by rw [hb]; exact HN0.out.symm
        rw [hnn] at c1
        have heq : ((n0 : Int) == (n0 : Int)) = true := by simp
        clear hb hnn hsz hll hbl
        go_quiet (fail)
        go_wp2_with fail
        go_meet
        exact ⟨_, HA2.out.below (below_drewN (Below.refl _ _) _), .inl ⟨rfl, HFIN.out⟩⟩
      · have hlt := blanks_lt hb
        have HX := Lib.hid (show attrsR (r.length + 1) [] r = (match blanksM r' with
          | [] => .ok ats []
          | c :: r1 => if c = 47 || c = 62 then .ok ats (c :: r1) else (attrM ats (c :: r1)).bind fun a r2 => attrsR g (ats ++ [a]) r2 : Rs (List At2)) by rw [← HMOD.out, attrsR, if_neg hb]; rfl)
        have HLT := Lib.hid hlt
        have hq : (((l.length - (blanksM r').length : Nat) : Int) == (n0 : Int)) = false := by
          rw [beq_eq_false_iff_ne]
          have h1 := HN0.out
          omega
        clear hb hbl hlt
        generalize blanksM r' = rb at HX HLT HA2 c1 hq
        cases rb with
        | nil =>
          have hge : decide (((str l).size : Int) ≤ ((l.length - ([] : List UInt8).length : Nat) : Int)) = true := decide_eq_true (by rw [hsz]; simp)
          have hgeN : decide ((str l).size ≤ l.length - ([] : List UInt8).length) = true := decide_eq_true (by rw [hsz]; simp)
          generalize l.length - ([] : List UInt8).length = n1 at c1 hq hge hgeN
          clear hsz hll
          go_quiet (fail)
          go_wp2_with fail
          go_meet
          exact ⟨_, HA2.out.below (below_drewN (Below.refl _ _) _), .inl ⟨rfl, HX.out⟩⟩
        | cons c r3 =>
          have hll2 := suf_len HA2.out.rr.1
          simp only [List.length_cons] at hll2
          have hge : decide (((str l).size : Int) ≤ ((l.length - (c :: r3).length : Nat) : Int)) = false := decide_eq_false (by rw [hsz]; simp only [List.length_cons]; omega)
          have hgeN : decide ((str l).size ≤ l.length - (c :: r3).length) = false := decide_eq_false (by rw [hsz]; simp only [List.length_cons]; omega)
          have HAT := Lib.hid (fun w1 (hm : RM X l (c :: r3) 0 0 w2 w1) => rat_some X l (c :: r3) 0 0 0 c rfl hl w1 hm.1)
          have C0 := Lib.hid (fun w1 (hm : RM X l (c :: r3) 0 0 w2 w1) => hm.1.cells.1)
          have C1 := Lib.hid (fun w1 (hm : RM X l (c :: r3) 0 0 w2 w1) => hm.1.cells.2.1)
          generalize l.length - (c :: r3).length = n1 at C1 hq hge hgeN
          clear hsz hll hll2 c0 c1 c2 c3
          by_cases h47 : c = 47
          · have hq47 : ((c.toNat : Int) == 47) = true := by rw [h47]; rfl
            have HFIN := Lib.hid (show attrsR (r.length + 1) [] r = .ok ats (c :: r3) by rw [HX.out, h47]; rfl)
            clear h47
            refine wp_region_held_drew (S := (fun w1 => RM X l (c :: r3) 0 0 w2 w1)) (by kernel_rfl) (by (try dsimp only); exact RM.drew0 HA2.out.rr) (fun hHeld => ?_)
            generalize w2.drew = wd at hHeld ⊢
            refine wpAnyH_take (i := 0) (v := ?_) (by (simp only [List.getElem?_toArray, List.getElem?_cons_succ, List.getElem?_cons_zero]; rfl)) (by kernel_rfl) (by kernel_rfl) (by kernel_rfl) (by intro _ _ _ h; exact h) (Or.inl ⟨by rfl, ?_⟩) (by assumption) ?_
            rotate_left
            · (intro w hSw; (try dsimp only at hSw); go_simp; try (with_reducible rfl))
            simp only [Act.put, List.setIfInBounds_toArray, List.set_cons_zero, List.set_cons_succ]
            refine wpAnyH_take (i := 1) (v := ?_) (by (simp only [List.getElem?_toArray, List.getElem?_cons_succ, List.getElem?_cons_zero]; rfl)) (by kernel_rfl) (by kernel_rfl) (by kernel_rfl) (by intro _ _ _ h; exact h) (Or.inl ⟨by rfl, ?_⟩) (by assumption) ?_
            rotate_left
            · (intro w hSw; (try dsimp only at hSw); go_simp; try (with_reducible rfl))
            simp only [Act.put, List.setIfInBounds_toArray, List.set_cons_zero, List.set_cons_succ]
            refine wpAnyH_take (i := 2) (v := ?_) (by (simp only [List.getElem?_toArray, List.getElem?_cons_succ, List.getElem?_cons_zero]; rfl)) (by kernel_rfl) (by kernel_rfl) (by kernel_rfl) (by intro _ _ _ h; exact h) (Or.inl ⟨by rfl, ?_⟩) (by assumption) ?_
            rotate_left
            · (intro w hSw; (try dsimp only at hSw); go_simp; try (with_reducible rfl))
            simp only [Act.put, List.setIfInBounds_toArray, List.set_cons_zero, List.set_cons_succ]
            refine wpAnyH_take (i := 3) (v := ?_) (by (simp only [List.getElem?_toArray, List.getElem?_cons_succ, List.getElem?_cons_zero]; rfl)) (by kernel_rfl) (by kernel_rfl) (by kernel_rfl) (by intro _ _ _ h; exact h) (Or.inl ⟨by rfl, ?_⟩) (by assumption) ?_
            rotate_left
            · (intro w hSw; have q1 := C1.out w hSw; go_simp; try (with_reducible rfl))
            simp only [Act.put, List.setIfInBounds_toArray, List.set_cons_zero, List.set_cons_succ]
            refine wpAnyH_take (i := 4) (v := ?_) (by (simp only [List.getElem?_toArray, List.getElem?_cons_succ, List.getElem?_cons_zero]; rfl)) (by kernel_rfl) (by kernel_rfl) (by kernel_rfl) (by intro _ _ _ h; exact h) (Or.inl ⟨by rfl, ?_⟩) (by assumption) ?_
            rotate_left
            · (intro w hSw; (try dsimp only at hSw); go_simp; try (with_reducible rfl))
            simp only [Act.put, List.setIfInBounds_toArray, List.set_cons_zero, List.set_cons_succ]
            refine wpAnyH_take (i := 5) (v := ?_) (by (simp only [List.getElem?_toArray, List.getElem?_cons_succ, List.getElem?_cons_zero]; rfl)) (by kernel_rfl) (by kernel_rfl) (by kernel_rfl) (by intro _ _ _ h; exact h) (Or.inl ⟨by rfl, ?_⟩) (by assumption) ?_
            rotate_left
            · (intro w hSw; (try dsimp only at hSw); go_simp; try (with_reducible rfl))
            simp only [Act.put, List.setIfInBounds_toArray, List.set_cons_zero, List.set_cons_succ]
            refine wpAnyH_take (i := 6) (v := ?_) (by (simp only [List.getElem?_toArray, List.getElem?_cons_succ, List.getElem?_cons_zero]; rfl)) (by kernel_rfl) (by kernel_rfl) (by kernel_rfl) (by intro _ _ _ h; exact h) (Or.inl ⟨by rfl, ?_⟩) (by assumption) ?_
            rotate_left
            · (intro w hSw; (try dsimp only at hSw); go_simp; try (with_reducible rfl))
            simp only [Act.put, List.setIfInBounds_toArray, List.set_cons_zero, List.set_cons_succ]
            refine wpAnyH_take (i := 7) (v := ?_) (by (simp only [List.getElem?_toArray, List.getElem?_cons_succ, List.getElem?_cons_zero]; rfl)) (by kernel_rfl) (by kernel_rfl) (by kernel_rfl) (by intro _ _ _ h; exact h) (Or.inl ⟨by rfl, ?_⟩) (by assumption) ?_
            rotate_left
            · (intro w hSw; (try dsimp only at hSw); go_simp; try (with_reducible rfl))
            simp only [Act.put, List.setIfInBounds_toArray, List.set_cons_zero, List.set_cons_succ]
            refine wpAnyH_take (i := 8) (v := ?_) (by (simp only [List.getElem?_toArray, List.getElem?_cons_succ, List.getElem?_cons_zero]; rfl)) (by kernel_rfl) (by kernel_rfl) (by kernel_rfl) (by intro _ _ _ h; exact h) (Or.inl ⟨by rfl, ?_⟩) (by assumption) ?_
            rotate_left
            · (intro w hSw; (try dsimp only at hSw); go_simp; try (with_reducible rfl))
            simp only [Act.put, List.setIfInBounds_toArray, List.set_cons_zero, List.set_cons_succ]
            refine wpAnyH_take (i := 9) (v := ?_) (by (simp only [List.getElem?_toArray, List.getElem?_cons_succ, List.getElem?_cons_zero]; rfl)) (by kernel_rfl) (by kernel_rfl) (by kernel_rfl) (by intro _ _ _ h; exact h) (Or.inl ⟨by rfl, ?_⟩) (by assumption) ?_
            rotate_left
            · (intro w hSw; (try dsimp only at hSw); go_simp; try (with_reducible rfl))
            simp only [Act.put, List.setIfInBounds_toArray, List.set_cons_zero, List.set_cons_succ]
            refine wpAnyH_take (i := 10) (v := ?_) (by (simp only [List.getElem?_toArray, List.getElem?_cons_succ, List.getElem?_cons_zero]; rfl)) (by kernel_rfl) (by kernel_rfl) (by kernel_rfl) (by intro _ _ _ h; exact h) (Or.inl ⟨by rfl, ?_⟩) (by assumption) ?_
            rotate_left
            · (intro w hSw; have q1 := C1.out w hSw; go_simp; try (with_reducible rfl))
            simp only [Act.put, List.setIfInBounds_toArray, List.set_cons_zero, List.set_cons_succ]
            refine wpAnyH_take (i := 11) (v := ?_) (by (simp only [List.getElem?_toArray, List.getElem?_cons_succ, List.getElem?_cons_zero]; rfl)) (by kernel_rfl) (by kernel_rfl) (by kernel_rfl) (by intro _ _ _ h; exact h) (Or.inl ⟨by rfl, ?_⟩) (by assumption) ?_
            rotate_left
            · (intro w hSw; (try dsimp only at hSw); go_simp; try (with_reducible rfl))
            simp only [Act.put, List.setIfInBounds_toArray, List.set_cons_zero, List.set_cons_succ]
            refine wpAnyH_take (i := 12) (v := ?_) (by (simp only [List.getElem?_toArray, List.getElem?_cons_succ, List.getElem?_cons_zero]; rfl)) (by kernel_rfl) (by kernel_rfl) (by kernel_rfl) (by intro _ _ _ h; exact h) (Or.inl ⟨by rfl, ?_⟩) (by assumption) ?_
            rotate_left
            · (intro w hSw; (try dsimp only at hSw); go_simp; try (with_reducible rfl))
            simp only [Act.put, List.setIfInBounds_toArray, List.set_cons_zero, List.set_cons_succ]
            refine wpAnyH_take (i := 13) (v := ?_) (by (simp only [List.getElem?_toArray, List.getElem?_cons_succ, List.getElem?_cons_zero]; rfl)) (by kernel_rfl) (by kernel_rfl) (by kernel_rfl) (by intro _ _ _ h; exact h) (Or.inl ⟨by rfl, ?_⟩) (by assumption) ?_
            rotate_left
            · (intro w hSw; (try dsimp only at hSw); go_simp; try (with_reducible rfl))
            simp only [Act.put, List.setIfInBounds_toArray, List.set_cons_zero, List.set_cons_succ]
            refine wpAnyH_take (i := 14) (v := ?_) (by (simp only [List.getElem?_toArray, List.getElem?_cons_succ, List.getElem?_cons_zero]; rfl)) (by kernel_rfl) (by kernel_rfl) (by kernel_rfl) (by intro _ _ _ h; exact h) (Or.inl ⟨by rfl, ?_⟩) (by assumption) ?_
            rotate_left
            · (intro w hSw; have q1 := C0.out w hSw; go_simp; try (with_reducible rfl))
            simp only [Act.put, List.setIfInBounds_toArray, List.set_cons_zero, List.set_cons_succ]
            refine wpAnyH_take (i := 15) (v := ?_) (by (simp only [List.getElem?_toArray, List.getElem?_cons_succ, List.getElem?_cons_zero]; rfl)) (by kernel_rfl) (by kernel_rfl) (by kernel_rfl) (by intro _ _ _ h; exact h) (Or.inl ⟨by rfl, ?_⟩) (by assumption) ?_
            rotate_left
            · (intro w hSw; (try dsimp only at hSw); go_simp; try (with_reducible rfl))
            simp only [Act.put, List.setIfInBounds_toArray, List.set_cons_zero, List.set_cons_succ]
            refine wpAnyH_take (i := 16) (v := ?_) (by (simp only [List.getElem?_toArray, List.getElem?_cons_succ, List.getElem?_cons_zero]; rfl)) (by kernel_rfl) (by kernel_rfl) (by kernel_rfl) (by intro _ _ _ h; exact h) (Or.inl ⟨by rfl, ?_⟩) (by assumption) ?_
            rotate_left
            · (intro w hSw; (try dsimp only at hSw); go_simp; try (with_reducible rfl))
            simp only [Act.put, List.setIfInBounds_toArray, List.set_cons_zero, List.set_cons_succ]
            refine wpAnyH_take (i := 17) (v := ?_) (by (simp only [List.getElem?_toArray, List.getElem?_cons_succ, List.getElem?_cons_zero]; rfl)) (by kernel_rfl) (by kernel_rfl) (by kernel_rfl) (by intro _ _ _ h; exact h) (Or.inl ⟨by rfl, ?_⟩) (by assumption) ?_
            rotate_left
            · (intro w hSw; (try dsimp only at hSw); go_simp; try (with_reducible rfl))
            simp only [Act.put, List.setIfInBounds_toArray, List.set_cons_zero, List.set_cons_succ]
            refine wpAnyH_take (i := 18) (v := ?_) (by (simp only [List.getElem?_toArray, List.getElem?_cons_succ, List.getElem?_cons_zero]; rfl)) (by kernel_rfl) (by kernel_rfl) (by kernel_rfl) (by intro _ _ _ h; exact h) (Or.inl ⟨by rfl, ?_⟩) (by assumption) ?_
            rotate_left
            · (intro w hSw; (try dsimp only at hSw); go_simp; try (with_reducible rfl))
            simp only [Act.put, List.setIfInBounds_toArray, List.set_cons_zero, List.set_cons_succ]
            refine wpAnyH_take (i := 19) (v := ?_) (by (simp only [List.getElem?_toArray, List.getElem?_cons_succ, List.getElem?_cons_zero]; rfl)) (by kernel_rfl) (by kernel_rfl) (by kernel_rfl) (by intro _ _ _ h; exact h) (Or.inl ⟨by rfl, ?_⟩) (by assumption) ?_
            rotate_left
            · (intro w hSw; (try dsimp only at hSw); go_simp; try (with_reducible rfl))
            simp only [Act.put, List.setIfInBounds_toArray, List.set_cons_zero, List.set_cons_succ]
            refine wpAnyH_ready (rs := [20]) (by kernel_rfl) (by simp) ?_
            refine AllReadyH.cons (by (simp only [List.getElem?_toArray, List.getElem?_cons_succ, List.getElem?_cons_zero]; rfl)) (fun K hK => ?_) AllReadyH.nil
            go_simp
            go_at_call 40; refine (HAT.out _ hHeld).mono ?_; rintro e w6 ⟨rfl, hm6⟩
            refine hK.out _ _ (by (try dsimp only); exact hHeld.trans hm6) (fun hHeld => ?_)
            clear hK K
            try simp only [Act.put, List.setIfInBounds_toArray, List.set_cons_zero, List.set_cons_succ]
            clear hm6
            refine wpAnyH_take (i := 21) (v := ?_) (by (simp only [List.getElem?_toArray, List.getElem?_cons_succ, List.getElem?_cons_zero]; rfl)) (by kernel_rfl) (by kernel_rfl) (by kernel_rfl) (by intro _ _ _ h; exact h) (Or.inl ⟨by rfl, ?_⟩) (by assumption) ?_
            rotate_left
            · (intro w hSw; (try dsimp only at hSw); go_simp; try (with_reducible rfl))
            simp only [Act.put, List.setIfInBounds_toArray, List.set_cons_zero, List.set_cons_succ]
            refine wpAnyH_take (i := 22) (v := ?_) (by (simp only [List.getElem?_toArray, List.getElem?_cons_succ, List.getElem?_cons_zero]; rfl)) (by kernel_rfl) (by kernel_rfl) (by kernel_rfl) (by intro _ _ _ h; exact h) (Or.inl ⟨by rfl, ?_⟩) (by assumption) ?_
            rotate_left
            · (intro w hSw; (try dsimp only at hSw); go_simp; try (with_reducible rfl))
            simp only [Act.put, List.setIfInBounds_toArray, List.set_cons_zero, List.set_cons_succ]
            refine wpAnyH_take (i := 23) (v := ?_) (by (simp only [List.getElem?_toArray, List.getElem?_cons_succ, List.getElem?_cons_zero]; rfl)) (by kernel_rfl) (by kernel_rfl) (by kernel_rfl) (by intro _ _ _ h; exact h) (Or.inl ⟨by rfl, ?_⟩) (by assumption) ?_
            rotate_left
            · (intro w hSw; (try dsimp only at hSw); go_simp; try (with_reducible rfl))
            simp only [Act.put, List.setIfInBounds_toArray, List.set_cons_zero, List.set_cons_succ]
            refine wpAnyH_take (i := 24) (v := undef) (by (simp only [List.getElem?_toArray, List.getElem?_cons_succ, List.getElem?_cons_zero]; rfl)) (by kernel_rfl) (by kernel_rfl) (by kernel_rfl) (by intro _ _ _ h; exact h) (Or.inr ⟨by rfl, rfl⟩) (by assumption) ?_
            simp only [Act.put, List.setIfInBounds_toArray, List.set_cons_zero, List.set_cons_succ]
            refine wpAnyH_take (i := 25) (v := undef) (by (simp only [List.getElem?_toArray, List.getElem?_cons_succ, List.getElem?_cons_zero]; rfl)) (by kernel_rfl) (by kernel_rfl) (by kernel_rfl) (by intro _ _ _ h; exact h) (Or.inr ⟨by rfl, rfl⟩) (by assumption) ?_
            simp only [Act.put, List.setIfInBounds_toArray, List.set_cons_zero, List.set_cons_succ]
            refine wpAnyH_take (i := 26) (v := undef) (by (simp only [List.getElem?_toArray, List.getElem?_cons_succ, List.getElem?_cons_zero]; rfl)) (by kernel_rfl) (by kernel_rfl) (by kernel_rfl) (by intro _ _ _ h; exact h) (Or.inr ⟨by rfl, rfl⟩) (by assumption) ?_
            simp only [Act.put, List.setIfInBounds_toArray, List.set_cons_zero, List.set_cons_succ]
            refine wpAnyH_take (i := 27) (v := ?_) (by (simp only [List.getElem?_toArray, List.getElem?_cons_succ, List.getElem?_cons_zero]; rfl)) (by kernel_rfl) (by kernel_rfl) (by kernel_rfl) (by intro _ _ _ h; exact h) (Or.inl ⟨by rfl, ?_⟩) (by assumption) ?_
            rotate_left
            · (intro w hSw; (try dsimp only at hSw); go_simp; try (with_reducible rfl))
            simp only [Act.put, List.setIfInBounds_toArray, List.set_cons_zero, List.set_cons_succ]
            refine wpAnyH_done (by kernel_rfl) ?_ _
            go_wp2_with fail
            go_meet
            exact ⟨_, HA2.out.mv hHeld, .inl ⟨rfl, HFIN.out⟩⟩
          · have hq47 : ((c.toNat : Int) == 47) = false := u8_ne2 (d := 47) h47
            by_cases h62 : c = 62
            · have hq62 : ((c.toNat : Int) == 62) = true := by rw [h62]; rfl
              have HFIN := Lib.hid (show attrsR (r.length + 1) [] r = .ok ats (c :: r3) by rw [HX.out, h62]; rfl)
              clear h47 h62
              refine wp_region_held_drew (S := (fun w1 => RM X l (c :: r3) 0 0 w2 w1)) (by kernel_rfl) (by (try dsimp only); exact RM.drew0 HA2.out.rr) (fun hHeld => ?_)
              generalize w2.drew = wd at hHeld ⊢
              refine wpAnyH_take (i := 0) (v := ?_) (by (simp only [List.getElem?_toArray, List.getElem?_cons_succ, List.getElem?_cons_zero]; rfl)) (by kernel_rfl) (by kernel_rfl) (by kernel_rfl) (by intro _ _ _ h; exact h) (Or.inl ⟨by rfl, ?_⟩) (by assumption) ?_
              rotate_left
              · (intro w hSw; (try dsimp only at hSw); go_simp; try (with_reducible rfl))
              simp only [Act.put, List.setIfInBounds_toArray, List.set_cons_zero, List.set_cons_succ]
              refine wpAnyH_take (i := 1) (v := ?_) (by (simp only [List.getElem?_toArray, List.getElem?_cons_succ, List.getElem?_cons_zero]; rfl)) (by kernel_rfl) (by kernel_rfl) (by kernel_rfl) (by intro _ _ _ h; exact h) (Or.inl ⟨by rfl, ?_⟩) (by assumption) ?_
              rotate_left
              · (intro w hSw; (try dsimp only at hSw); go_simp; try (with_reducible rfl))
              simp only [Act.put, List.setIfInBounds_toArray, List.set_cons_zero, List.set_cons_succ]
              refine wpAnyH_take (i := 2) (v := ?_) (by (simp only [List.getElem?_toArray, List.getElem?_cons_succ, List.getElem?_cons_zero]; rfl)) (by kernel_rfl) (by kernel_rfl) (by kernel_rfl) (by intro _ _ _ h; exact h) (Or.inl ⟨by rfl, ?_⟩) (by assumption) ?_
              rotate_left
              · (intro w hSw; (try dsimp only at hSw); go_simp; try (with_reducible rfl))
              simp only [Act.put, List.setIfInBounds_toArray, List.set_cons_zero, List.set_cons_succ]
              refine wpAnyH_take (i := 3) (v := ?_) (by (simp only [List.getElem?_toArray, List.getElem?_cons_succ, List.getElem?_cons_zero]; rfl)) (by kernel_rfl) (by kernel_rfl) (by kernel_rfl) (by intro _ _ _ h; exact h) (Or.inl ⟨by rfl, ?_⟩) (by assumption) ?_
              rotate_left
              · (intro w hSw; have q1 := C1.out w hSw; go_simp; try (with_reducible rfl))
              simp only [Act.put, List.setIfInBounds_toArray, List.set_cons_zero, List.set_cons_succ]
              refine wpAnyH_take (i := 4) (v := ?_) (by (simp only [List.getElem?_toArray, List.getElem?_cons_succ, List.getElem?_cons_zero]; rfl)) (by kernel_rfl) (by kernel_rfl) (by kernel_rfl) (by intro _ _ _ h; exact h) (Or.inl ⟨by rfl, ?_⟩) (by assumption) ?_
              rotate_left
              · (intro w hSw; (try dsimp only at hSw); go_simp; try (with_reducible rfl))
              simp only [Act.put, List.setIfInBounds_toArray, List.set_cons_zero, List.set_cons_succ]
              refine wpAnyH_take (i := 5) (v := ?_) (by (simp only [List.getElem?_toArray, List.getElem?_cons_succ, List.getElem?_cons_zero]; rfl)) (by kernel_rfl) (by kernel_rfl) (by kernel_rfl) (by intro _ _ _ h; exact h) (Or.inl ⟨by rfl, ?_⟩) (by assumption) ?_
              rotate_left
              · (intro w hSw; (try dsimp only at hSw); go_simp; try (with_reducible rfl))
              simp only [Act.put, List.setIfInBounds_toArray, List.set_cons_zero, List.set_cons_succ]
              refine wpAnyH_take (i := 6) (v := ?_) (by (simp only [List.getElem?_toArray, List.getElem?_cons_succ, List.getElem?_cons_zero]; rfl)) (by kernel_rfl) (by kernel_rfl) (by kernel_rfl) (by intro _ _ _ h; exact h) (Or.inl ⟨by rfl, ?_⟩) (by assumption) ?_
              rotate_left
              · (intro w hSw; (try dsimp only at hSw); go_simp; try (with_reducible rfl))
              simp only [Act.put, List.setIfInBounds_toArray, List.set_cons_zero, List.set_cons_succ]
              refine wpAnyH_take (i := 7) (v := ?_) (by (simp only [List.getElem?_toArray, List.getElem?_cons_succ, List.getElem?_cons_zero]; rfl)) (by kernel_rfl) (by kernel_rfl) (by kernel_rfl) (by intro _ _ _ h; exact h) (Or.inl ⟨by rfl, ?_⟩) (by assumption) ?_
              rotate_left
              · (intro w hSw; (try dsimp only at hSw); go_simp; try (with_reducible rfl))
              simp only [Act.put, List.setIfInBounds_toArray, List.set_cons_zero, List.set_cons_succ]
              refine wpAnyH_take (i := 8) (v := ?_) (by (simp only [List.getElem?_toArray, List.getElem?_cons_succ, List.getElem?_cons_zero]; rfl)) (by kernel_rfl) (by kernel_rfl) (by kernel_rfl) (by intro _ _ _ h; exact h) (Or.inl ⟨by rfl, ?_⟩) (by assumption) ?_
              rotate_left
              · (intro w hSw; (try dsimp only at hSw); go_simp; try (with_reducible rfl))
              simp only [Act.put, List.setIfInBounds_toArray, List.set_cons_zero, List.set_cons_succ]
              refine wpAnyH_take (i := 9) (v := ?_) (by (simp only [List.getElem?_toArray, List.getElem?_cons_succ, List.getElem?_cons_zero]; rfl)) (by kernel_rfl) (by kernel_rfl) (by kernel_rfl) (by intro _ _ _ h; exact h) (Or.inl ⟨by rfl, ?_⟩) (by assumption) ?_
              rotate_left
              · (intro w hSw; (try dsimp only at hSw); go_simp; try (with_reducible rfl))
              simp only [Act.put, List.setIfInBounds_toArray, List.set_cons_zero, List.set_cons_succ]
              refine wpAnyH_take (i := 10) (v := ?_) (by (simp only [List.getElem?_toArray, List.getElem?_cons_succ, List.getElem?_cons_zero]; rfl)) (by kernel_rfl) (by kernel_rfl) (by kernel_rfl) (by intro _ _ _ h; exact h) (Or.inl ⟨by rfl, ?_⟩) (by assumption) ?_
              rotate_left
              · (intro w hSw; have q1 := C1.out w hSw; go_simp; try (with_reducible rfl))
              simp only [Act.put, List.setIfInBounds_toArray, List.set_cons_zero, List.set_cons_succ]
              refine wpAnyH_take (i := 11) (v := ?_) (by (simp only [List.getElem?_toArray, List.getElem?_cons_succ, List.getElem?_cons_zero]; rfl)) (by kernel_rfl) (by kernel_rfl) (by kernel_rfl) (by intro _ _ _ h; exact h) (Or.inl ⟨by rfl, ?_⟩) (by assumption) ?_
              rotate_left
              · (intro w hSw; (try dsimp only at hSw); go_simp; try (with_reducible rfl))
              simp only [Act.put, List.setIfInBounds_toArray, List.set_cons_zero, List.set_cons_succ]
              refine wpAnyH_take (i := 12) (v := ?_) (by (simp only [List.getElem?_toArray, List.getElem?_cons_succ, List.getElem?_cons_zero]; rfl)) (by kernel_rfl) (by kernel_rfl) (by kernel_rfl) (by intro _ _ _ h; exact h) (Or.inl ⟨by rfl, ?_⟩) (by assumption) ?_
              rotate_left
              · (intro w hSw; (try dsimp only at hSw); go_simp; try (with_reducible rfl))
              simp only [Act.put, List.setIfInBounds_toArray, List.set_cons_zero, List.set_cons_succ]
              refine wpAnyH_take (i := 13) (v := ?_) (by (simp only [List.getElem?_toArray, List.getElem?_cons_succ, List.getElem?_cons_zero]; rfl)) (by kernel_rfl) (by kernel_rfl) (by kernel_rfl) (by intro _ _ _ h; exact h) (Or.inl ⟨by rfl, ?_⟩) (by assumption) ?_
              rotate_left
              · (intro w hSw; (try dsimp only at hSw); go_simp; try (with_reducible rfl))
              simp only [Act.put, List.setIfInBounds_toArray, List.set_cons_zero, List.set_cons_succ]
              refine wpAnyH_take (i := 14) (v := ?_) (by (simp only [List.getElem?_toArray, List.getElem?_cons_succ, List.getElem?_cons_zero]; rfl)) (by kernel_rfl) (by kernel_rfl) (by kernel_rfl) (by intro _ _ _ h; exact h) (Or.inl ⟨by rfl, ?_⟩) (by assumption) ?_
              rotate_left
              · (intro w hSw; have q1 := C0.out w hSw; go_simp; try (with_reducible rfl))
              simp only [Act.put, List.setIfInBounds_toArray, List.set_cons_zero, List.set_cons_succ]
              refine wpAnyH_take (i := 15) (v := ?_) (by (simp only [List.getElem?_toArray, List.getElem?_cons_succ, List.getElem?_cons_zero]; rfl)) (by kernel_rfl) (by kernel_rfl) (by kernel_rfl) (by intro _ _ _ h; exact h) (Or.inl ⟨by rfl, ?_⟩) (by assumption) ?_
              rotate_left
              · (intro w hSw; (try dsimp only at hSw); go_simp; try (with_reducible rfl))
              simp only [Act.put, List.setIfInBounds_toArray, List.set_cons_zero, List.set_cons_succ]
              refine wpAnyH_take (i := 16) (v := ?_) (by (simp only [List.getElem?_toArray, List.getElem?_cons_succ, List.getElem?_cons_zero]; rfl)) (by kernel_rfl) (by kernel_rfl) (by kernel_rfl) (by intro _ _ _ h; exact h) (Or.inl ⟨by rfl, ?_⟩) (by assumption) ?_
              rotate_left
              · (intro w hSw; (try dsimp only at hSw); go_simp; try (with_reducible rfl))
              simp only [Act.put, List.setIfInBounds_toArray, List.set_cons_zero, List.set_cons_succ]
              refine wpAnyH_take (i := 17) (v := ?_) (by (simp only [List.getElem?_toArray, List.getElem?_cons_succ, List.getElem?_cons_zero]; rfl)) (by kernel_rfl) (by kernel_rfl) (by kernel_rfl) (by intro _ _ _ h; exact h) (Or.inl ⟨by rfl, ?_⟩) (by assumption) ?_
              rotate_left
              · (intro w hSw; (try dsimp only at hSw); go_simp; try (with_reducible rfl))
              simp only [Act.put, List.setIfInBounds_toArray, List.set_cons_zero, List.set_cons_succ]
              refine wpAnyH_take (i := 18) (v := ?_) (by (simp only [List.getElem?_toArray, List.getElem?_cons_succ, List.getElem?_cons_zero]; rfl)) (by kernel_rfl) (by kernel_rfl) (by kernel_rfl) (by intro _ _ _ h; exact h) (Or.inl ⟨by rfl, ?_⟩) (by assumption) ?_
              rotate_left
              · (intro w hSw; (try dsimp only at hSw); go_simp; try (with_reducible rfl))
              simp only [Act.put, List.setIfInBounds_toArray, List.set_cons_zero, List.set_cons_succ]
              refine wpAnyH_take (i := 19) (v := ?_) (by (simp only [List.getElem?_toArray, List.getElem?_cons_succ, List.getElem?_cons_zero]; rfl)) (by kernel_rfl) (by kernel_rfl) (by kernel_rfl) (by intro _ _ _ h; exact h) (Or.inl ⟨by rfl, ?_⟩) (by assumption) ?_
              rotate_left
              · (intro w hSw; (try dsimp only at hSw); go_simp; try (with_reducible rfl))
              simp only [Act.put, List.setIfInBounds_toArray, List.set_cons_zero, List.set_cons_succ]
              refine wpAnyH_ready (rs := [20]) (by kernel_rfl) (by simp) ?_
              refine AllReadyH.cons (by (simp only [List.getElem?_toArray, List.getElem?_cons_succ, List.getElem?_cons_zero]; rfl)) (fun K hK => ?_) AllReadyH.nil
              go_simp
              go_at_call 40; refine (HAT.out _ hHeld).mono ?_; rintro e w6 ⟨rfl, hm6⟩
              refine hK.out _ _ (by (try dsimp only); exact hHeld.trans hm6) (fun hHeld => ?_)
              clear hK K
              try simp only [Act.put, List.setIfInBounds_toArray, List.set_cons_zero, List.set_cons_succ]
              clear hm6
              refine wpAnyH_take (i := 21) (v := ?_) (by (simp only [List.getElem?_toArray, List.getElem?_cons_succ, List.getElem?_cons_zero]; rfl)) (by kernel_rfl) (by kernel_rfl) (by kernel_rfl) (by intro _ _ _ h; exact h) (Or.inl ⟨by rfl, ?_⟩) (by assumption) ?_
              rotate_left
              · (intro w hSw; (try dsimp only at hSw); go_simp; try (with_reducible rfl))
              simp only [Act.put, List.setIfInBounds_toArray, List.set_cons_zero, List.set_cons_succ]
              refine wpAnyH_take (i := 22) (v := ?_) (by (simp only [List.getElem?_toArray, List.getElem?_cons_succ, List.getElem?_cons_zero]; rfl)) (by kernel_rfl) (by kernel_rfl) (by kernel_rfl) (by intro _ _ _ h; exact h) (Or.inl ⟨by rfl, ?_⟩) (by assumption) ?_
              rotate_left
              · (intro w hSw; (try dsimp only at hSw); go_simp; try (with_reducible rfl))
              simp only [Act.put, List.setIfInBounds_toArray, List.set_cons_zero, List.set_cons_succ]
              refine wpAnyH_take (i := 23) (v := ?_) (by (simp only [List.getElem?_toArray, List.getElem?_cons_succ, List.getElem?_cons_zero]; rfl)) (by kernel_rfl) (by kernel_rfl) (by kernel_rfl) (by intro _ _ _ h; exact h) (Or.inl ⟨by rfl, ?_⟩) (by assumption) ?_
              rotate_left
              · (intro w hSw; (try dsimp only at hSw); go_simp; try (with_reducible rfl))
              simp only [Act.put, List.setIfInBounds_toArray, List.set_cons_zero, List.set_cons_succ]
              refine wpAnyH_take (i := 24) (v := ?_) (by (simp only [List.getElem?_toArray, List.getElem?_cons_succ, List.getElem?_cons_zero]; rfl)) (by kernel_rfl) (by kernel_rfl) (by kernel_rfl) (by intro _ _ _ h; exact h) (Or.inl ⟨by rfl, ?_⟩) (by assumption) ?_
              rotate_left
              · (intro w hSw; (try dsimp only at hSw); go_simp; try (with_reducible rfl))
              simp only [Act.put, List.setIfInBounds_toArray, List.set_cons_zero, List.set_cons_succ]
              refine wpAnyH_ready (rs := [25]) (by kernel_rfl) (by simp) ?_
              refine AllReadyH.cons (by (simp only [List.getElem?_toArray, List.getElem?_cons_succ, List.getElem?_cons_zero]; rfl)) (fun K hK => ?_) AllReadyH.nil
              go_simp
              go_at_call 40; refine (HAT.out _ hHeld).mono ?_; rintro e w6 ⟨rfl, hm6⟩
              refine hK.out _ _ (by (try dsimp only); exact hHeld.trans hm6) (fun hHeld => ?_)
              clear hK K
              try simp only [Act.put, List.setIfInBounds_toArray, List.set_cons_zero, List.set_cons_succ]
              clear hm6
              refine wpAnyH_take (i := 26) (v := ?_) (by (simp only [List.getElem?_toArray, List.getElem?_cons_succ, List.getElem?_cons_zero]; rfl)) (by kernel_rfl) (by kernel_rfl) (by kernel_rfl) (by intro _ _ _ h; exact h) (Or.inl ⟨by rfl, ?_⟩) (by assumption) ?_
              rotate_left
              · (intro w hSw; (try dsimp only at hSw); go_simp; try (with_reducible rfl))
              simp only [Act.put, List.setIfInBounds_toArray, List.set_cons_zero, List.set_cons_succ]
              refine wpAnyH_take (i := 27) (v := ?_) (by (simp only [List.getElem?_toArray, List.getElem?_cons_succ, List.getElem?_cons_zero]; rfl)) (by kernel_rfl) (by kernel_rfl) (by kernel_rfl) (by intro _ _ _ h; exact h) (Or.inl ⟨by rfl, ?_⟩) (by assumption) ?_
              rotate_left
              · (intro w hSw; (try dsimp only at hSw); go_simp; try (with_reducible rfl))
              simp only [Act.put, List.setIfInBounds_toArray, List.set_cons_zero, List.set_cons_succ]
              refine wpAnyH_done (by kernel_rfl) ?_ _
              go_wp2_with fail
              go_meet
              exact ⟨_, HA2.out.mv hHeld, .inl ⟨rfl, HFIN.out⟩⟩
            · have hq62 : ((c.toNat : Int) == 62) = false := u8_ne2 (d := 62) h62
              have HFIN := Lib.hid (show (attrM ats (c :: r3)).bind (fun a r4 => attrsR g (ats ++ [a]) r4) = attrsR (r.length + 1) [] r by
                rw [HX.out]
                show _ = ite _ _ _
                rw [if_neg (by simp [h47, h62])])
              clear h47 h62
              refine wp_region_held_drew (S := (fun w1 => RM X l (c :: r3) 0 0 w2 w1)) (by kernel_rfl) (by (try dsimp only); exact RM.drew0 HA2.out.rr) (fun hHeld => ?_)
              generalize w2.drew = wd at hHeld ⊢
              refine wpAnyH_take (i := 0) (v := ?_) (by (simp only [List.getElem?_toArray, List.getElem?_cons_succ, List.getElem?_cons_zero]; rfl)) (by kernel_rfl) (by kernel_rfl) (by kernel_rfl) (by intro _ _ _ h; exact h) (Or.inl ⟨by rfl, ?_⟩) (by assumption) ?_
              rotate_left
              · (intro w hSw; (try dsimp only at hSw); go_simp; try (with_reducible rfl))
              simp only [Act.put, List.setIfInBounds_toArray, List.set_cons_zero, List.set_cons_succ]
              refine wpAnyH_take (i := 1) (v := ?_) (by (simp only [List.getElem?_toArray, List.getElem?_cons_succ, List.getElem?_cons_zero]; rfl)) (by kernel_rfl) (by kernel_rfl) (by kernel_rfl) (by intro _ _ _ h; exact h) (Or.inl ⟨by rfl, ?_⟩) (by assumption) ?_
              rotate_left
              · (intro w hSw; (try dsimp only at hSw); go_simp; try (with_reducible rfl))
              simp only [Act.put, List.setIfInBounds_toArray, List.set_cons_zero, List.set_cons_succ]
              refine wpAnyH_take (i := 2) (v := ?_) (by (simp only [List.getElem?_toArray, List.getElem?_cons_succ, List.getElem?_cons_zero]; rfl)) (by kernel_rfl) (by kernel_rfl) (by kernel_rfl) (by intro _ _ _ h; exact h) (Or.inl ⟨by rfl, ?_⟩) (by assumption) ?_
              rotate_left
              · (intro w hSw; (try dsimp only at hSw); go_simp; try (with_reducible rfl))
              simp only [Act.put, List.setIfInBounds_toArray, List.set_cons_zero, List.set_cons_succ]
              refine wpAnyH_take (i := 3) (v := ?_) (by (simp only [List.getElem?_toArray, List.getElem?_cons_succ, List.getElem?_cons_zero]; rfl)) (by kernel_rfl) (by kernel_rfl) (by kernel_rfl) (by intro _ _ _ h; exact h) (Or.inl ⟨by rfl, ?_⟩) (by assumption) ?_
              rotate_left
              · (intro w hSw; have q1 := C1.out w hSw; go_simp; try (with_reducible rfl))
              simp only [Act.put, List.setIfInBounds_toArray, List.set_cons_zero, List.set_cons_succ]
              refine wpAnyH_take (i := 4) (v := ?_) (by (simp only [List.getElem?_toArray, List.getElem?_cons_succ, List.getElem?_cons_zero]; rfl)) (by kernel_rfl) (by kernel_rfl) (by kernel_rfl) (by intro _ _ _ h; exact h) (Or.inl ⟨by rfl, ?_⟩) (by assumption) ?_
              rotate_left
              · (intro w hSw; (try dsimp only at hSw); go_simp; try (with_reducible rfl))
              simp only [Act.put, List.setIfInBounds_toArray, List.set_cons_zero, List.set_cons_succ]
              refine wpAnyH_take (i := 5) (v := ?_) (by (simp only [List.getElem?_toArray, List.getElem?_cons_succ, List.getElem?_cons_zero]; rfl)) (by kernel_rfl) (by kernel_rfl) (by kernel_rfl) (by intro _ _ _ h; exact h) (Or.inl ⟨by rfl, ?_⟩) (by assumption) ?_
              rotate_left
              · (intro w hSw; (try dsimp only at hSw); go_simp; try (with_reducible rfl))
              simp only [Act.put, List.setIfInBounds_toArray, List.set_cons_zero, List.set_cons_succ]
              refine wpAnyH_take (i := 6) (v := ?_) (by (simp only [List.getElem?_toArray, List.getElem?_cons_succ, List.getElem?_cons_zero]; rfl)) (by kernel_rfl) (by kernel_rfl) (by kernel_rfl) (by intro _ _ _ h; exact h) (Or.inl ⟨by rfl, ?_⟩) (by assumption) ?_
              rotate_left
              · (intro w hSw; (try dsimp only at hSw); go_simp; try (with_reducible rfl))
              simp only [Act.put, List.setIfInBounds_toArray, List.set_cons_zero, List.set_cons_succ]
              refine wpAnyH_take (i := 7) (v := ?_) (by (simp only [List.getElem?_toArray, List.getElem?_cons_succ, List.getElem?_cons_zero]; rfl)) (by kernel_rfl) (by kernel_rfl) (by kernel_rfl) (by intro _ _ _ h; exact h) (Or.inl ⟨by rfl, ?_⟩) (by assumption) ?_
              rotate_left
              · (intro w hSw; (try dsimp only at hSw); go_simp; try (with_reducible rfl))
              simp only [Act.put, List.setIfInBounds_toArray, List.set_cons_zero, List.set_cons_succ]
              refine wpAnyH_take (i := 8) (v := ?_) (by (simp only [List.getElem?_toArray, List.getElem?_cons_succ, List.getElem?_cons_zero]; rfl)) (by kernel_rfl) (by kernel_rfl) (by kernel_rfl) (by intro _ _ _ h; exact h) (Or.inl ⟨by rfl, ?_⟩) (by assumption) ?_
              rotate_left
              · (intro w hSw; (try dsimp only at hSw); go_simp; try (with_reducible rfl))
              simp only [Act.put, List.setIfInBounds_toArray, List.set_cons_zero, List.set_cons_succ]
              refine wpAnyH_take (i := 9) (v := ?_) (by (simp only [List.getElem?_toArray, List.getElem?_cons_succ, List.getElem?_cons_zero]; rfl)) (by kernel_rfl) (by kernel_rfl) (by kernel_rfl) (by intro _ _ _ h; exact h) (Or.inl ⟨by rfl, ?_⟩) (by assumption) ?_
              rotate_left
              · (intro w hSw; (try dsimp only at hSw); go_simp; try (with_reducible rfl))
              simp only [Act.put, List.setIfInBounds_toArray, List.set_cons_zero, List.set_cons_succ]
              refine wpAnyH_take (i := 10) (v := ?_) (by (simp only [List.getElem?_toArray, List.getElem?_cons_succ, List.getElem?_cons_zero]; rfl)) (by kernel_rfl) (by kernel_rfl) (by kernel_rfl) (by intro _ _ _ h; exact h) (Or.inl ⟨by rfl, ?_⟩) (by assumption) ?_
              rotate_left
              · (intro w hSw; have q1 := C1.out w hSw; go_simp; try (with_reducible rfl))
              simp only [Act.put, List.setIfInBounds_toArray, List.set_cons_zero, List.set_cons_succ]
              refine wpAnyH_take (i := 11) (v := ?_) (by (simp only [List.getElem?_toArray, List.getElem?_cons_succ, List.getElem?_cons_zero]; rfl)) (by kernel_rfl) (by kernel_rfl) (by kernel_rfl) (by intro _ _ _ h; exact h) (Or.inl ⟨by rfl, ?_⟩) (by assumption) ?_
              rotate_left
              · (intro w hSw; (try dsimp only at hSw); go_simp; try (with_reducible rfl))
              simp only [Act.put, List.setIfInBounds_toArray, List.set_cons_zero, List.set_cons_succ]
              refine wpAnyH_take (i := 12) (v := ?_) (by (simp only [List.getElem?_toArray, List.getElem?_cons_succ, List.getElem?_cons_zero]; rfl)) (by kernel_rfl) (by kernel_rfl) (by kernel_rfl) (by intro _ _ _ h; exact h) (Or.inl ⟨by rfl, ?_⟩) (by assumption) ?_
              rotate_left
              · (intro w hSw; (try dsimp only at hSw); go_simp; try (with_reducible rfl))
              simp only [Act.put, List.setIfInBounds_toArray, List.set_cons_zero, List.set_cons_succ]
              refine wpAnyH_take (i := 13) (v := ?_) (by (simp only [List.getElem?_toArray, List.getElem?_cons_succ, List.getElem?_cons_zero]; rfl)) (by kernel_rfl) (by kernel_rfl) (by kernel_rfl) (by intro _ _ _ h; exact h) (Or.inl ⟨by rfl, ?_⟩) (by assumption) ?_
              rotate_left
              · (intro w hSw; (try dsimp only at hSw); go_simp; try (with_reducible rfl))
              simp only [Act.put, List.setIfInBounds_toArray, List.set_cons_zero, List.set_cons_succ]
              refine wpAnyH_take (i := 14) (v := ?_) (by (simp only [List.getElem?_toArray, List.getElem?_cons_succ, List.getElem?_cons_zero]; rfl)) (by kernel_rfl) (by kernel_rfl) (by kernel_rfl) (by intro _ _ _ h; exact h) (Or.inl ⟨by rfl, ?_⟩) (by assumption) ?_
              rotate_left
              · (intro w hSw; have q1 := C0.out w hSw; go_simp; try (with_reducible rfl))
              simp only [Act.put, List.setIfInBounds_toArray, List.set_cons_zero, List.set_cons_succ]
              refine wpAnyH_take (i := 15) (v := ?_) (by (simp only [List.getElem?_toArray, List.getElem?_cons_succ, List.getElem?_cons_zero]; rfl)) (by kernel_rfl) (by kernel_rfl) (by kernel_rfl) (by intro _ _ _ h; exact h) (Or.inl ⟨by rfl, ?_⟩) (by assumption) ?_
              rotate_left
              · (intro w hSw; (try dsimp only at hSw); go_simp; try (with_reducible rfl))
              simp only [Act.put, List.setIfInBounds_toArray, List.set_cons_zero, List.set_cons_succ]
              refine wpAnyH_take (i := 16) (v := ?_) (by (simp only [List.getElem?_toArray, List.getElem?_cons_succ, List.getElem?_cons_zero]; rfl)) (by kernel_rfl) (by kernel_rfl) (by kernel_rfl) (by intro _ _ _ h; exact h) (Or.inl ⟨by rfl, ?_⟩) (by assumption) ?_
              rotate_left
              · (intro w hSw; (try dsimp only at hSw); go_simp; try (with_reducible rfl))
              simp only [Act.put, List.setIfInBounds_toArray, List.set_cons_zero, List.set_cons_succ]
              refine wpAnyH_take (i := 17) (v := ?_) (by (simp only [List.getElem?_toArray, List.getElem?_cons_succ, List.getElem?_cons_zero]; rfl)) (by kernel_rfl) (by kernel_rfl) (by kernel_rfl) (by intro _ _ _ h; exact h) (Or.inl ⟨by rfl, ?_⟩) (by assumption) ?_
              rotate_left
              · (intro w hSw; (try dsimp only at hSw); go_simp; try (with_reducible rfl))
              simp only [Act.put, List.setIfInBounds_toArray, List.set_cons_zero, List.set_cons_succ]
              refine wpAnyH_take (i := 18) (v := ?_) (by (simp only [List.getElem?_toArray, List.getElem?_cons_succ, List.getElem?_cons_zero]; rfl)) (by kernel_rfl) (by kernel_rfl) (by kernel_rfl) (by intro _ _ _ h; exact h) (Or.inl ⟨by rfl, ?_⟩) (by assumption) ?_
              rotate_left
              · (intro w hSw; (try dsimp only at hSw); go_simp; try (with_reducible rfl))
              simp only [Act.put, List.setIfInBounds_toArray, List.set_cons_zero, List.set_cons_succ]
              refine wpAnyH_take (i := 19) (v := ?_) (by (simp only [List.getElem?_toArray, List.getElem?_cons_succ, List.getElem?_cons_zero]; rfl)) (by kernel_rfl) (by kernel_rfl) (by kernel_rfl) (by intro _ _ _ h; exact h) (Or.inl ⟨by rfl, ?_⟩) (by assumption) ?_
              rotate_left
              · (intro w hSw; (try dsimp only at hSw); go_simp; try (with_reducible rfl))
              simp only [Act.put, List.setIfInBounds_toArray, List.set_cons_zero, List.set_cons_succ]
              refine wpAnyH_ready (rs := [20]) (by kernel_rfl) (by simp) ?_
              refine AllReadyH.cons (by (simp only [List.getElem?_toArray, List.getElem?_cons_succ, List.getElem?_cons_zero]; rfl)) (fun K hK => ?_) AllReadyH.nil
              go_simp
              go_at_call 40; refine (HAT.out _ hHeld).mono ?_; rintro e w6 ⟨rfl, hm6⟩
              refine hK.out _ _ (by (try dsimp only); exact hHeld.trans hm6) (fun hHeld => ?_)
              clear hK K
              try simp only [Act.put, List.setIfInBounds_toArray, List.set_cons_zero, List.set_cons_succ]
              clear hm6
              refine wpAnyH_take (i := 21) (v := ?_) (by (simp only [List.getElem?_toArray, List.getElem?_cons_succ, List.getElem?_cons_zero]; rfl)) (by kernel_rfl) (by kernel_rfl) (by kernel_rfl) (by intro _ _ _ h; exact h) (Or.inl ⟨by rfl, ?_⟩) (by assumption) ?_
              rotate_left
              · (intro w hSw; (try dsimp only at hSw); go_simp; try (with_reducible rfl))
              simp only [Act.put, List.setIfInBounds_toArray, List.set_cons_zero, List.set_cons_succ]
              refine wpAnyH_take (i := 22) (v := ?_) (by (simp only [List.getElem?_toArray, List.getElem?_cons_succ, List.getElem?_cons_zero]; rfl)) (by kernel_rfl) (by kernel_rfl) (by kernel_rfl) (by intro _ _ _ h; exact h) (Or.inl ⟨by rfl, ?_⟩) (by assumption) ?_
              rotate_left
              · (intro w hSw; (try dsimp only at hSw); go_simp; try (with_reducible rfl))
              simp only [Act.put, List.setIfInBounds_toArray, List.set_cons_zero, List.set_cons_succ]
              refine wpAnyH_take (i := 23) (v := ?_) (by (simp only [List.getElem?_toArray, List.getElem?_cons_succ, List.getElem?_cons_zero]; rfl)) (by kernel_rfl) (by kernel_rfl) (by kernel_rfl) (by intro _ _ _ h; exact h) (Or.inl ⟨by rfl, ?_⟩) (by assumption) ?_
              rotate_left
              · (intro w hSw; (try dsimp only at hSw); go_simp; try (with_reducible rfl))
              simp only [Act.put, List.setIfInBounds_toArray, List.set_cons_zero, List.set_cons_succ]
              refine wpAnyH_take (i := 24) (v := ?_) (by (simp only [List.getElem?_toArray, List.getElem?_cons_succ, List.getElem?_cons_zero]; rfl)) (by kernel_rfl) (by kernel_rfl) (by kernel_rfl) (by intro _ _ _ h; exact h) (Or.inl ⟨by rfl, ?_⟩) (by assumption) ?_
              rotate_left
              · (intro w hSw; (try dsimp only at hSw); go_simp; try (with_reducible rfl))
              simp only [Act.put, List.setIfInBounds_toArray, List.set_cons_zero, List.set_cons_succ]
              refine wpAnyH_ready (rs := [25]) (by kernel_rfl) (by simp) ?_
              refine AllReadyH.cons (by (simp only [List.getElem?_toArray, List.getElem?_cons_succ, List.getElem?_cons_zero]; rfl)) (fun K hK => ?_) AllReadyH.nil
              go_simp
              go_at_call 40; refine (HAT.out _ hHeld).mono ?_; rintro e w6 ⟨rfl, hm6⟩
              refine hK.out _ _ (by (try dsimp only); exact hHeld.trans hm6) (fun hHeld => ?_)
              clear hK K
              try simp only [Act.put, List.setIfInBounds_toArray, List.set_cons_zero, List.set_cons_succ]
              clear hm6
              refine wpAnyH_take (i := 26) (v := ?_) (by (simp only [List.getElem?_toArray, List.getElem?_cons_succ, List.getElem?_cons_zero]; rfl)) (by kernel_rfl) (by kernel_rfl) (by kernel_rfl) (by intro _ _ _ h; exact h) (Or.inl ⟨by rfl, ?_⟩) (by assumption) ?_
              rotate_left
              · (intro w hSw; (try dsimp only at hSw); go_simp; try (with_reducible rfl))
              simp only [Act.put, List.setIfInBounds_toArray, List.set_cons_zero, List.set_cons_succ]
              refine wpAnyH_take (i := 27) (v := ?_) (by (simp only [List.getElem?_toArray, List.getElem?_cons_succ, List.getElem?_cons_zero]; rfl)) (by kernel_rfl) (by kernel_rfl) (by kernel_rfl) (by intro _ _ _ h; exact h) (Or.inl ⟨by rfl, ?_⟩) (by assumption) ?_
              rotate_left
              · (intro w hSw; (try dsimp only at hSw); go_simp; try (with_reducible rfl))
              simp only [Act.put, List.setIfInBounds_toArray, List.set_cons_zero, List.set_cons_succ]
              refine wpAnyH_done (by kernel_rfl) ?_ _
              go_wp2_with fail
              go_meet
              exact ⟨_, HA2.out.mv hHeld, .inr ⟨rfl, c, r3, rfl, HLT.out, HFIN.out⟩⟩
    case rest =>
      obtain ⟨r2, hac, ⟨rfl, hfin⟩ | ⟨rfl, c, r3, rfl, hlt, hnx⟩⟩ := hcut
      · have HFIN := Lib.hid hfin
        have HAC := Lib.hid hac
        clear hfin hac
        go_wp2
        go_ret
        rw [HFIN.out]
        exact ⟨_, rfl, HAC.out⟩
      have HLT := Lib.hid hlt
      have HNX := Lib.hid hnx
      have HAC := Lib.hid hac
      obtain ⟨c0, c1, c2, c3⟩ := hac.rr.cells
      obtain ⟨k, hk⟩ : ∃ k, k = l.length - (c :: r3).length := ⟨_, rfl⟩
      rw [← hk] at c1
      have HK := Lib.hid hk
      have hkI : (k : Int) ≤ 1000000 := by have := suf_len hac.rr.1; omega
      have HNM := Lib.hid ((rname_at X l (c :: r3) 10 hl wc hac.rr).mono fun e w' h => name_two (by decide) h)
      clear hlt hnx hac hk
      go_upto_region 8 with fail
      clear c0 c1 c2 c3
      go_wp2_with fail
      refine HNM.out.mono ?_
      rintro e w3 ⟨n, e0, o0, r5, rfl, hm3, hnm⟩
      have HA3 := Lib.hid (HAC.out.mv hm3)
      have HNM2 := Lib.hid hnm
      have HE0 := Lib.hid (show e0 = 0 → o0 = 0 from fun h => hnm.elim (fun h2 => h2.2.1) (fun h2 => absurd h h2.1))
      clear hm3 HNM hnm
      go_wp2_with fail
      go_loopw [59] (fun i wr2 => ∃ q : Nat, q ≤ ats.length ∧ i = .int .i64 q ∧ RA w X l r5 (dupC e0 ((ats.take q).any (fun a => a.1 == n))) (dupO e0 o0 (k : Int) ((ats.take q).any (fun a => a.1 == n))) ats (.slice aa ats.length ac) wr2) (fun i _ => ats.length - (intOf i).toNat)
      case atStart =>
        refine ⟨0, by omega, rfl, ?_⟩
        have := dup_0 (c0 := e0) (o0 := o0) (at0 := (k : Int)) HE0.out
        show RA w X l r5 (dupC e0 false) (dupO e0 o0 (k : Int) false) ats _ _
        rw [this.1, this.2]
        exact HA3.out
      case round =>
        obtain ⟨q, hq, rfl, hra⟩ := hrel
        by_cases hlt : q < ats.length
        · obtain ⟨x, hx⟩ : ∃ x, ats[q]? = some x := ⟨_, List.getElem?_eq_getElem hlt⟩
          obtain ⟨a1, e1, d0, d1⟩ := RdSl.elem hra.rd hx
          subst e1
          have hsn := any_snoc2 (n := n) hx
          generalize (ats.take q).any (fun a => a.1 == n) = b at hra hsn
          have HSN := Lib.hid hsn
          obtain ⟨wb, hwb⟩ : ∃ wb, wb = wr.alloc (.cells #[.string (str x.1), .string (str x.2)] 46) := ⟨_, rfl⟩
          have hbb : Below wr.heap.size wr wb := by rw [hwb]; exact (Below.refl _ _).alloc (Nat.le_refl _) _
          have hnew : wb.heap[wr.heap.size]? = some (.cells #[.string (str x.1), .string (str x.2)] 46 (0, 0)) := by rw [hwb]; exact heap_alloc_new wr _
          have hrb := hra.below hbb
          have HRB := Lib.hid hrb
          have HWB := Lib.hid hwb
          have hqI : (q : Int) < (ats.length : Int) := by omega
          clear hra hwb hbb hsn hx
          generalize hcc : dupC e0 b = c' at hrb HRB
          generalize hoo : dupO e0 o0 (k : Int) b = o' at hrb HRB
          have HCC := Lib.hid hcc
          have HOO := Lib.hid hoo
          obtain ⟨c0, c1, c2, c3⟩ := hrb.rr.cells
          have y0 : wb.cell? ⟨wr.heap.size, 0, none⟩ = some (.string (str x.1)) := by rw [cell_of_row wb _ 0 _ _ (0, 0) hnew]; rfl
          clear hrb hnew hcc hoo
          go_upto_region 12 with fail
          rw [← HWB.out]
          clear d0 d1
          by_cases he : x.1 = n
          · have heq : ((str x.1).toList == (str n).toList) = true := by rw [he]; simp
            have HE := Lib.hid he
            clear he
            by_cases hc0 : c' = 0
            · subst hc0
              have HF := Lib.hid (rfail_yes X l r5 o' 15 (k : Int) wb HRB.out.rr)
              have hd := dup_new (o0 := o0) (at0 := (k : Int)) HCC.out
              have HD1 := Lib.hid hd.1
              have HD2 := Lib.hid hd.2
              clear hd
              go_wp2_with fail
              refine HF.out.mono ?_
              rintro e w7 ⟨rfl, hm7⟩
              have HA7 := Lib.hid (HRB.out.mv hm7)
              clear hm7
              go_wp2
              go_roundw
              case rel => exact ⟨q + 1, by omega, by go_num, by rw [HSN.out, HE.out, beq_self_eq_true, Bool.or_true, HD1.out, HD2.out]; exact HA7.out⟩
              case measure => simp [intOf]; omega
            · have hcb : (c' == 0) = false := by simpa using hc0
              have hd := dup_stay (c0 := e0) (o0 := o0) (at0 := (k : Int)) (b := b) (by rw [HCC.out]; exact hc0)
              have HD1 := Lib.hid hd.1
              have HD2 := Lib.hid hd.2
              clear hd hc0
              go_wp2
              go_roundw
              case rel => exact ⟨q + 1, by omega, by go_num, by rw [HSN.out, HE.out, beq_self_eq_true, Bool.or_true, HD1.out, HD2.out, HCC.out, HOO.out]; exact HRB.out⟩
              case measure => simp [intOf]; omega
          · have heq : ((str x.1).toList == (str n).toList) = false := by rw [beq_eq_false_iff_ne]; exact fun h => he (strEq.1 h)
            have HE := Lib.hid (show (x.1 == n) = false by simpa using he)
            clear he
            go_wp2
            go_roundw
            case rel => exact ⟨q + 1, by omega, by go_num, by rw [HSN.out, HE.out, Bool.or_false, HCC.out, HOO.out]; exact HRB.out⟩
            case measure => simp [intOf]; omega
        · have hle : (ats.length : Int) ≤ q := by omega
          have hta : ats.take q = ats := List.take_of_length_le (by omega)
          rw [hta] at hra
          clear hta hq hlt
          generalize hanb : ats.any (fun a => a.1 == n) = b at hra
          have HANB := Lib.hid hanb
          clear hanb
          obtain ⟨c0, c1, c2, c3⟩ := hra.rr.cells
          have HRA := Lib.hid hra
          clear hra
          rcases HNM2.out with ⟨h1, h2, hM⟩ | ⟨h1, h2, r6, hM, h3⟩
          case inr =>
            have hdc : dupC e0 b = e0 := by unfold dupC; rw [if_neg h1]
            have hdo : dupO e0 o0 (k : Int) b = o0 := by unfold dupO; rw [if_neg h1]
            rw [hdc] at c2 HRA
            rw [hdo] at c3 HRA
            have HFIN := Lib.hid (show attrsR (r.length + 1) [] r = .bad e0 r6 by rw [← HNX.out]; unfold attrM; rw [hM]; rfl)
            have hne : (e0 != 0) = true := by simpa using h1
            have HO0 := Lib.hid h3
            clear h1 h2 h3 hM hdc hdo
            go_wp2
            go_ret
            rw [HFIN.out]
            exact ⟨rfl, r5, by rw [← HO0.out]; exact HRA.out.rm⟩
          subst h1
          subst h2
          cases b with
          | true =>
            have HFIN := Lib.hid (show attrsR (r.length + 1) [] r = .bad 15 (c :: r3) by rw [← HNX.out]; unfold attrM; rw [hM]; show (ite _ _ _ : Rs At2).bind _ = _; rw [if_pos HANB.out]; rfl)
            have hdc : dupC 0 true = 15 := rfl
            have hdo : dupO 0 0 (k : Int) true = (k : Int) := rfl
            rw [hdc] at c2 HRA
            rw [hdo] at c3 HRA
            clear hM hdc hdo
            go_wp2
            go_ret
            rw [HFIN.out]
            exact ⟨rfl, r5, by rw [← HK.out]; exact HRA.out.rm⟩
          | false =>
            have hdc : dupC 0 false = 0 := rfl
            have hdo : dupO 0 0 (k : Int) false = 0 := rfl
            rw [hdc] at c2 HRA
            rw [hdo] at c3 HRA
            have HNX2 := Lib.hid (show ((mustM 61 (blanksM r5)).bind fun _ r2 =>
                match blanksM r2 with
                | [] => .bad 13 []
                | q :: r3 => if q = 34 || q = 39 then (letM q false (r3.length + 1) [] r3).bind fun v r4 => .ok (n, v) (r4.drop 1) else .bad 10 (q :: r3) : Rs At2).bind (fun a r4 => attrsR g (ats ++ [a]) r4) = attrsR (r.length + 1) [] r by
              rw [← HNX.out]
              unfold attrM
              rw [hM]
              show _ = (ite _ _ _ : Rs At2).bind _
              rw [if_neg (by rw [HANB.out]; decide)]
              rfl)
            have HL5 := Lib.hid (nm_len hM)
            have HBL := Lib.hid (rblanks_at X l r5 0 0 hl _ HRA.out.rr)
            clear hM hdc hdo
            go_wp2_with fail
            refine HBL.out.mono ?_
            rintro e w4 ⟨rfl, hm4⟩
            have HA4 := Lib.hid (HRA.out.mv hm4)
            have HWT := Lib.hid (rwant_at X l (blanksM r5) 61 hl _ HA4.out.rr)
            clear hm4 HBL c0 c1 c2 c3
            have HB5 := Lib.hid (blanks_len r5)
            cases hM : mustM 61 (blanksM r5) with
            | bad e6 r6 =>
              have he6 := ne_must 61 _ _ _ hM
              have HFIN := Lib.hid (show attrsR (r.length + 1) [] r = .bad e6 r6 by rw [← HNX2.out, hM]; rfl)
              rw [hM] at HWT
              have hcb : (e6 == 0) = false := by simpa using he6
              have HCB := Lib.hid hcb
              clear hM he6 hcb
              go_wp2_with fail
              refine HWT.out.mono ?_
              rintro e w5 ⟨rfl, r7, hm5⟩
              have HA5 := Lib.hid (HA4.out.mv hm5)
              have HBL2 := Lib.hid (rblanks_at X l r7 e6 _ hl _ hm5.1)
              clear hm5 HWT
              go_wp2_with fail
              refine HBL2.out.mono ?_
              rintro e w6 ⟨rfl, hm6⟩
              have HA6 := Lib.hid (HA5.out.mv hm6)
              have HEN := Lib.hid (rend_bad X l _ e6 _ HCB.out _ hm6.1)
              clear hm6 HBL2
              go_wp2_with fail
              refine HEN.out.mono ?_
              rintro e w7 ⟨rfl, hm7⟩
              have HA7 := Lib.hid (HA6.out.mv hm7)
              clear hm7 HEN
              go_wp2
              go_ret
              rw [HFIN.out]
              exact ⟨rfl, _, HA7.out.rm⟩
            | ok u r6 =>
              have HL6 := Lib.hid (ok_len hM (must_left 61 _))
              have HNX3 := Lib.hid (show (match blanksM r6 with
                | [] => .bad 13 []
                | q :: r3 => if q = 34 || q = 39 then (letM q false (r3.length + 1) [] r3).bind fun v r4 => .ok (n, v) (r4.drop 1) else .bad 10 (q :: r3) : Rs At2).bind (fun a r4 => attrsR g (ats ++ [a]) r4) = attrsR (r.length + 1) [] r by
                rw [← HNX2.out, hM]; rfl)
              rw [hM] at HWT
              clear hM
              go_wp2_with fail
              refine HWT.out.mono ?_
              rintro e w5 ⟨rfl, hm5⟩
              have HA5 := Lib.hid (HA4.out.mv hm5)
              have HBL2 := Lib.hid (rblanks_at X l r6 0 0 hl _ hm5.1)
              clear hm5 HWT
              go_wp2_with fail
              refine HBL2.out.mono ?_
              rintro e w6 ⟨rfl, hm6⟩
              have HA6 := Lib.hid (HA5.out.mv hm6)
              have HL7 := Lib.hid (blanks_len r6)
              clear hm6 HBL2
              generalize blanksM r6 = rb at HA6 HNX3 HL7
              have HEN := Lib.hid (rend_ok X l rb _ HA6.out.rr)
              go_wp2_with fail
              refine HEN.out.mono ?_
              rintro e w7 ⟨rfl, hm7, hm7b⟩
              cases rb with
              | nil =>
                have HA7 := Lib.hid (HA6.out.mv (hm7 rfl))
                have HFIN := Lib.hid (show attrsR (r.length + 1) [] r = .bad 13 [] by rw [← HNX3.out]; rfl)
                clear hm7 hm7b HEN
                dsimp only [List.isEmpty]
                go_wp2
                go_ret
                rw [HFIN.out]
                exact ⟨rfl, [], HA7.out.rm⟩
              | cons c4 r7 =>
                have HA7 := Lib.hid (HA6.out.mv (hm7b (by simp)))
                clear hm7 hm7b HEN
                dsimp only [List.isEmpty]
                have HAT := Lib.hid (rat_some X l (c4 :: r7) 0 0 0 c4 rfl hl _ HA7.out.rr)
                go_wp2_with fail
                refine HAT.out.mono ?_
                rintro e w8 ⟨rfl, hm8⟩
                have HA8 := Lib.hid (HA7.out.mv hm8)
                clear hm8 HAT
                obtain ⟨c0, c1, c2, c3⟩ := HA8.out.rr.cells
                have f1 := HA8.out.rr.frozen 1
                have hkb := suf_len HA8.out.rr.1
                obtain ⟨kq, hkq⟩ : ∃ kq, kq = l.length - (c4 :: r7).length := ⟨_, rfl⟩
                rw [← hkq] at c1
                have HKQ := Lib.hid hkq
                have HKB := Lib.hid hkb
                have hkqI : (kq : Int) ≤ 1000000 := by omega
                clear hkq hkb
                by_cases hqq : c4 = 34 ∨ c4 = 39
                · have HNX4 := Lib.hid (show ((letM c4 false (r7.length + 1) [] r7).bind fun v r4 => .ok (n, v) (r4.drop 1) : Rs At2).bind (fun a r4 => attrsR g (ats ++ [a]) r4) = attrsR (r.length + 1) [] r by
                    rw [← HNX3.out]
                    show _ = (ite _ _ _ : Rs At2).bind _
                    rw [if_pos (by simpa using hqq)])
                  have hb3 : ((c4.toNat : Int) != 34) = false ∨ (((c4.toNat : Int) != 34) = true ∧ ((c4.toNat : Int) != 39) = false) := by
                    rcases hqq with rfl | rfl
                    · exact .inl rfl
                    · exact .inr ⟨rfl, rfl⟩
                  clear hqq
                  go_upto_region 23 with fail
                  go_cut [98] from 92 to 129 (fun t wx => t = .bool false ∧ wx = w8)
                  case first =>
                    rcases hb3 with h | ⟨h, h2⟩
                    · go_wp2_with fail
                      go_meet
                      exact ⟨rfl, rfl⟩
                    · go_wp2_with fail
                      go_meet
                      exact ⟨rfl, rfl⟩
                  case rest =>
                    obtain ⟨rfl, rfl⟩ := hcut
                    clear hb3
                    have hsuf : r7 <:+ l := (List.suffix_cons c4 r7).trans HA8.out.rr.1
                    have hp := RM.put HA8.out.rr hsuf ((kq : Int) + 1) (by
                      have h1 := HKQ.out
                      have h2 := HKB.out
                      rw [h1]; simp at h2 ⊢; omega)
                    have HA9 := Lib.hid (HA8.out.mv hp)
                    clear hsuf hp
                    go_upto_region 27 with fail
                    generalize wc.setCell ⟨X, 1, none⟩ (.int .i64 ((kq : Int) + 1)) = w9 at HA9 ⊢
                    clear c0 c1 c2 c3 f1
                    have HLT9 := Lib.hid (rletters_at X l r7 c4 hl w9 HA9.out.rr)
                    have hclose := let_close (stop := c4) (r7.length + 1) [] r7 (by omega)
                    cases hM : letM c4 true (r7.length + 1) [] r7 with
                    | bad e8 r8 =>
                      have he8 := ne_let c4 true _ _ _ _ _ hM
                      have HFIN := Lib.hid (show attrsR (r.length + 1) [] r = .bad e8 r8 by rw [← HNX4.out, hclose, hM]; rfl)
                      rw [hM] at HLT9
                      have HCB := Lib.hid (show (e8 == 0) = false by simpa using he8)
                      clear hM he8 hclose
                      go_wp2_with fail
                      refine HLT9.out.mono ?_
                      rintro e w10 ⟨rfl, r9, hm10⟩
                      have HA10 := Lib.hid (HA9.out.mv hm10)
                      have HEN := Lib.hid (rend_bad X l r9 e8 _ HCB.out _ hm10.1)
                      clear hm10 HLT9
                      go_wp2_with fail
                      refine HEN.out.mono ?_
                      rintro e w11 ⟨rfl, hm11⟩
                      have HA11 := Lib.hid (HA10.out.mv hm11)
                      clear hm11 HEN
                      go_wp2
                      go_ret
                      rw [HFIN.out]
                      exact ⟨rfl, _, HA11.out.rm⟩
                    | ok v r8 =>
                      have HL8 := Lib.hid (ok_len hM (let_left _ _ _ _ _))
                      have HNX5 := Lib.hid (show ((closeL (.ok v r8)).bind fun v r4 => .ok (n, v) (r4.drop 1) : Rs At2).bind (fun a r4 => attrsR g (ats ++ [a]) r4) = attrsR (r.length + 1) [] r by rw [← HNX4.out, hclose, hM])
                      rw [hM] at HLT9
                      clear hM hclose
                      go_wp2_with fail
                      refine HLT9.out.mono ?_
                      rintro e w10 ⟨rfl, hm10⟩
                      have HA10 := Lib.hid (HA9.out.mv hm10)
                      have HEN := Lib.hid (rend_ok X l r8 _ hm10.1)
                      clear hm10 HLT9
                      go_wp2_with fail
                      refine HEN.out.mono ?_
                      rintro e w11 ⟨rfl, hm11, hm11b⟩
                      cases r8 with
                      | nil =>
                        have HA11 := Lib.hid (HA10.out.mv (hm11 rfl))
                        have HFIN := Lib.hid (show attrsR (r.length + 1) [] r = .bad 13 [] by rw [← HNX5.out]; rfl)
                        clear hm11 hm11b HEN
                        dsimp only [List.isEmpty]
                        go_wp2
                        go_ret
                        rw [HFIN.out]
                        exact ⟨rfl, [], HA11.out.rm⟩
                      | cons c9 r9 =>
                        have HA11 := Lib.hid (HA10.out.mv (hm11b (by simp)))
                        have HNX6 := Lib.hid (show attrsR g (ats ++ [(n, v)]) r9 = attrsR (r.length + 1) [] r by rw [← HNX5.out]; rfl)
                        clear hm11 hm11b HEN
                        dsimp only [List.isEmpty]
                        obtain ⟨c0, c1, c2, c3⟩ := HA11.out.rr.cells
                        have f1 := HA11.out.rr.frozen 1
                        have hkb := suf_len HA11.out.rr.1
                        obtain ⟨ks, hks⟩ : ∃ ks, ks = l.length - (c9 :: r9).length := ⟨_, rfl⟩
                        rw [← hks] at c1
                        have hksI : (ks : Int) ≤ 1000000 := by omega
                        have hsuf : r9 <:+ l := (List.suffix_cons c9 r9).trans HA11.out.rr.1
                        have hp := RM.put HA11.out.rr hsuf ((ks : Int) + 1) (by rw [hks]; simp at hkb ⊢; omega)
                        have HA12 := Lib.hid (HA11.out.mv hp)
                        clear hsuf hp hks hkb
                        go_upto_region 31 with fail
                        generalize w11.setCell ⟨X, 1, none⟩ (.int .i64 ((ks : Int) + 1)) = w12 at HA12 ⊢
                        clear c0 c1 c2 c3 f1
                        have HLEN2 := Lib.hid (show r9.length < g ∧ (ats ++ [(n, v)]).length + r9.length ≤ r.length ∧ r9.length < r'.length by
                          have h1 := HLEN.out
                          have h2 := HG.out
                          have h3 := HLT.out
                          have h4 := HL5.out
                          have h5 := HB5.out
                          have h6 := HL6.out
                          have h7 := HL7.out
                          have h8 := HL8.out
                          simp only [List.length_append, List.length_cons, List.length_nil] at h1 h2 h3 h4 h5 h6 h7 h8 ⊢
                          omega)
                        have hown := HA12.out.own
                        have h100 : ats.length ≤ 10000000 := by
                          have h1 := HLEN.out
                          have h2 := HLL.out
                          omega
                        have hbase : w.heap.size ≤ w12.heap.size := HA12.out.fr.size
                        go_wp2_with (first
                          | (refine appA2 (n, v) rfl _ _ rfl w.heap.size ats.length _ _ rfl hown rfl h100 hbase ?_; intro v' w13 ho13 hb13))
                        have HA13 := Lib.hid (HA12.out.push (a := (n, v)) ho13 hb13)
                        clear hown h100 hbase ho13 hb13
                        go_wp2
                        go_roundw
                        case rel => exact ⟨ats ++ [(n, v)], r9, g, HLEN2.out.1, HNX6.out, HLEN2.out.2.1, HA13.out⟩
                        case measure =>
                          rw [HOFF.out, HA13.out.rr.off]
                          have h1 := HLEN2.out.2.2
                          have h2 := HLL'.out
                          have h3 := suf_len HA13.out.rr.1
                          omega
                · have h34b : ((c4.toNat : Int) == 34) = false := u8_ne2 (d := 34) (fun h => hqq (.inl h))
                  have h34 : ((c4.toNat : Int) != 34) = true := by rw [bne, h34b]; rfl
                  have h39b : ((c4.toNat : Int) == 39) = false := u8_ne2 (d := 39) (fun h => hqq (.inr h))
                  have h39 : ((c4.toNat : Int) != 39) = true := by rw [bne, h39b]; rfl
                  have HFIN := Lib.hid (show attrsR (r.length + 1) [] r = .bad 10 (c4 :: r7) by
                    rw [← HNX3.out]
                    show (ite _ _ _ : Rs At2).bind _ = _
                    rw [if_neg (by simpa using hqq)]
                    rfl)
                  have HF := Lib.hid (rfail_yes X l (c4 :: r7) 0 10 (kq : Int) w8 HA8.out.rr)
                  clear hqq
                  go_wp2_with fail
                  refine HF.out.mono ?_
                  rintro e w9 ⟨rfl, hm9⟩
                  have HA9 := Lib.hid (HA8.out.mv hm9)
                  clear hm9
                  go_wp2
                  go_ret
                  rw [HFIN.out]
                  exact ⟨rfl, _, by rw [← HKQ.out]; exact HA9.out.rm⟩
end Go.Proofs.Ytldgjiohigiioaa
