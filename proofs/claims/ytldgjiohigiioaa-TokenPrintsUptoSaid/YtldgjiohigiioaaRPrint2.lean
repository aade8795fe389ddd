/-
  Layer 2: contract of the answer's Print. Own work.
-/
import Derived.Test.YtldgjiohigiioaaPrint2b
namespace Go.Proofs.Ytldgjiohigiioaa
set_option linter.unusedVariables false
set_option linter.unusedSimpArgs false
open Go.RowKit

theorem cat_4 (s a z n : List UInt8) : str s ++ (((⟨a.toArray⟩ : ByteArray) ++ str n) ++ ⟨z.toArray⟩) = str (s ++ (a ++ (n ++ z))) := by rw [cat_3, app_str]
theorem cat_5 (s n : List UInt8) : str s ++ ((⟨#[60]⟩ : ByteArray) ++ str n) = str (s ++ 60 :: n) := by
  rw [show (⟨#[60]⟩ : ByteArray) ++ str n = str ([60] ++ n) from app_str [60] n, app_str]; rfl
set_option maxRecDepth 100000 in
set_option maxHeartbeats 8000000 in
theorem refPrint_any (v : Value) (l : List Tm) (w : World) (hr : RdTs w v l) (hx : ∀ x ∈ l, x.t.length ≤ 2000000 ∧ ∀ p ∈ x.ats, p.2.length ≤ 2000000) (hsz : (prM l).length ≤ 100000000) :
    Calls Try.prog 18 #[v] w fun e w' => e = .returned (.string (str (prM l))) ∧ Below w.heap.size w w' := by
  obtain ⟨va, vc, hv⟩ := RdSl.shape hr
  subst hv
  have hla := RdSl.len hr
  have hlaI : (l.length : Int) ≤ 9223372036854775807 := by omega
  have HR := Lib.hid hr
  have HX := Lib.hid hx
  have HSZ := Lib.hid hsz
  clear hr hx hsz hla
  go_enter Try.func18, Try.ntmps18
  go_wp2_with fail
  go_loopw [3, 10] (fun s i wr => ∃ q : Nat, q ≤ l.length ∧ i = .int .i64 q ∧ s = .string (str (prM (l.take q))) ∧ Below w.heap.size w wr) (fun _ i _ => l.length - (intOf i).toNat)
  case atStart => exact ⟨0, by omega, rfl, rfl, Below.refl _ _⟩
  case round =>
    obtain ⟨q, hq, rfl, rfl, hbr⟩ := hrel
    have HBR := Lib.hid hbr
    clear hbr
    by_cases hlt : q < l.length
    · obtain ⟨x, hx⟩ : ∃ x, l[q]? = some x := ⟨_, List.getElem?_eq_getElem hlt⟩
      have hxx := HX.out _ (List.mem_of_getElem? hx)
      obtain ⟨bb, e1, ta, ⟨x0, x1, x2, x3, x4, x5, x6⟩, hats⟩ := RdSl.elem (HR.out.below HBR.out (Nat.le_refl _)) hx
      subst e1
      have HSN := Lib.hid (prM_snoc l q x hx)
      obtain ⟨k, n, ats, t, p0, p1, p2⟩ := x
      dsimp only at x0 x1 x2 x3 x4 x5 x6 hats hxx
      obtain ⟨ua, uc, hua⟩ := RdSl.shape hats
      subst hua
      obtain ⟨wb, hwb⟩ : ∃ wb, wb = wr.alloc (.cells #[.int .i64 k, .string (str n), .slice ua ats.length uc, .string (str t), .int .i64 p0, .int .i64 p1, .int .i64 p2] 34) := ⟨_, rfl⟩
      have hbb : Below wr.heap.size wr wb := by rw [hwb]; exact (Below.refl _ _).alloc (Nat.le_refl _) _
      have hrow : wb.heap[wr.heap.size]? = some (.cells #[.int .i64 k, .string (str n), .slice ua ats.length uc, .string (str t), .int .i64 p0, .int .i64 p1, .int .i64 p2] 34 (0, 0)) := by rw [hwb]; exact heap_alloc_new wr _
      have HBWB := Lib.hid (HBR.out.trans (hbb.mono HBR.out.size))
      have HATS := Lib.hid (hats.below hbb (Nat.le_refl _))
      have hlen : (prM (l.take q)).length + (prT k n ats t).length ≤ 100000000 := by
        have h1 := prM_le l (q + 1)
        rw [prM_snoc l q _ hx, List.length_append] at h1
        have := HSZ.out
        dsimp only at h1
        omega
      have HLEN := Lib.hid hlen
      have HXX := Lib.hid hxx
      have HWB := Lib.hid hwb
      have HROW := Lib.hid hrow
      have hqI : (q : Int) < (l.length : Int) := by omega
      obtain ⟨acc, hacc⟩ : ∃ acc, acc = prM (l.take q) := ⟨_, rfl⟩
      rw [← hacc] at HSN HLEN ⊢
      have hsI : ((str acc).size : Int) ≤ 100000000 := by rw [size_str]; have := HLEN.out; omega
      clear hbb hwb hx hats hxx hlen hacc hrow
      go_upto_region 5 with fail
      rw [← HWB.out]
      generalize wr.heap.size = KB at HROW ⊢
      clear x0 x1 x2 x3 x4 x5 x6
      have z0 : wb.cell? ⟨KB, 0, none⟩ = some (.int .i64 k) := by rw [cell_of_row wb _ 0 _ _ (0, 0) HROW.out]; rfl
      have z1 : wb.cell? ⟨KB, 1, none⟩ = some (.string (str n)) := by rw [cell_of_row wb _ 1 _ _ (0, 0) HROW.out]; rfl
      have z2 : wb.cell? ⟨KB, 2, none⟩ = some (.slice ua ats.length uc) := by rw [cell_of_row wb _ 2 _ _ (0, 0) HROW.out]; rfl
      have z3 : wb.cell? ⟨KB, 3, none⟩ = some (.string (str t)) := by rw [cell_of_row wb _ 3 _ _ (0, 0) HROW.out]; rfl
      by_cases k5 : k = 5
      · have q5 : (k == 5) = true := by rw [k5]; rfl
        have HP := Lib.hid (show prT k n ats t = [60, 33, 45, 45] ++ (t ++ [45, 45, 62]) by rw [k5]; rfl)
        have hs1 := HLEN.out
        rw [HP.out] at hs1
        have htI : ((str t).size : Int) ≤ 100000000 := by rw [size_str]; simp only [List.length_append] at hs1; omega
        have HC := Lib.hid (cat_4 acc [60, 33, 45, 45] [45, 45, 62] t)
        clear k5 hs1
        go_wp2
        go_roundw
        case rel => exact ⟨q + 1, by omega, by go_num, by rw [HSN.out, HP.out]; exact congrArg Value.string HC.out, HBWB.out⟩
        case measure => simp [intOf]; omega
      have q5 : (k == 5) = false := by simpa using k5
      by_cases k6 : k = 6
      · have q6 : (k == 6) = true := by rw [k6]; rfl
        have HP := Lib.hid (show prT k n ats t = [60, 63, 120, 109, 108] ++ (t ++ [63, 62]) by rw [k6]; rfl)
        have hs1 := HLEN.out
        rw [HP.out] at hs1
        have htI : ((str t).size : Int) ≤ 100000000 := by rw [size_str]; simp only [List.length_append] at hs1; omega
        have HC := Lib.hid (cat_4 acc [60, 63, 120, 109, 108] [63, 62] t)
        clear k5 k6 hs1
        go_wp2
        go_roundw
        case rel => exact ⟨q + 1, by omega, by go_num, by rw [HSN.out, HP.out]; exact congrArg Value.string HC.out, HBWB.out⟩
        case measure => simp [intOf]; omega
      have q6 : (k == 6) = false := by simpa using k6
      by_cases k3 : k = 3
      · have q3 : (k == 3) = true := by rw [k3]; rfl
        have HP := Lib.hid (show prT k n ats t = [60, 47] ++ (n ++ [62]) by rw [k3]; rfl)
        have hs1 := HLEN.out
        rw [HP.out] at hs1
        have htI : ((str n).size : Int) ≤ 100000000 := by rw [size_str]; simp only [List.length_append] at hs1; omega
        have HC := Lib.hid (cat_4 acc [60, 47] [62] n)
        clear k3 k5 k6 hs1
        go_wp2
        go_roundw
        case rel => exact ⟨q + 1, by omega, by go_num, by rw [HSN.out, HP.out]; exact congrArg Value.string HC.out, HBWB.out⟩
        case measure => simp [intOf]; omega
      have q3 : (k == 3) = false := by simpa using k3
      by_cases k4 : k = 4
      · have q4 : (k == 4) = true := by rw [k4]; rfl
        have HP := Lib.hid (show prT k n ats t = escS false t by rw [k4]; rfl)
        have hs1 := HLEN.out
        rw [HP.out] at hs1
        have htI : ((str (escS false t)).size : Int) ≤ 100000000 := by rw [size_str]; omega
        have HES := Lib.hid (fun w => refEscB false (str t) (by rw [size_str]; exact HXX.out.1) w)
        rw [toList_str] at HES
        obtain ⟨E, hE⟩ : ∃ E, E = escS false t := ⟨_, rfl⟩
        rw [← hE] at htI HES HP
        clear k3 k4 k5 k6 hs1 hE
        go_wp2_with fail
        refine (HES.out _).mono ?_
        rintro e w2 ⟨rfl, hw2⟩
        obtain rfl : wb = w2 := hw2.symm
        clear hw2
        go_wp2
        go_roundw
        case rel => exact ⟨q + 1, by omega, by go_num, by rw [HSN.out, HP.out, app_str], HBWB.out⟩
        case measure => simp [intOf]; omega
      have q4 : (k == 4) = false := by simpa using k4
      by_cases k12 : k = 1 ∨ k = 2
      case neg =>
        have q1 : (k == 1) = false := by simpa using fun h => k12 (.inl h)
        have q2 : (k == 2) = false := by simpa using fun h => k12 (.inr h)
        have HP := Lib.hid (show prT k n ats t = [] by unfold prT; rw [if_neg k5, if_neg k6, if_neg k4, if_neg k3, if_neg (fun h => k12 (.inl h)), if_neg (fun h => k12 (.inr h))])
        clear k3 k4 k5 k6 k12
        go_wp2
        go_roundw
        case rel => exact ⟨q + 1, by omega, by go_num, by rw [HSN.out, HP.out, List.append_nil], HBWB.out⟩
        case measure => simp [intOf]; omega
      case pos =>
        have HK := Lib.hid k12
        have HP := Lib.hid (show prT k n ats t = tagP n ats ++ (if k = 2 then [47, 62] else [62]) by
          rcases k12 with h | h <;> subst h <;> rfl)
        have hs1 := HLEN.out
        rw [HP.out] at hs1
        have hnI : ((str n).size : Int) ≤ 100000000 := by rw [size_str]; simp only [tagP, List.length_append, List.length_cons] at hs1; omega
        have HTG := Lib.hid (show acc.length + 1 + n.length + (ats.flatMap atP).length ≤ 100000000 by simp only [tagP, List.length_append, List.length_cons] at hs1; omega)
        have HC := Lib.hid (cat_5 acc n)
        have hal := RdSl.len HATS.out
        have halI : (ats.length : Int) ≤ 9223372036854775807 := by omega
        have hsum : ((str acc).size : Int) + (1 + ((str n).size : Int)) ≤ 300000000 := by omega
        clear k3 k4 k5 k6 hs1 hal
        rcases k12 with rfl | rfl
        · have HP2 := Lib.hid (show prT 1 n ats t = tagP n ats ++ [62] from rfl)
          clear HP HK q3 q4 q5 q6
          go_upto_region 17 with fail
          rw [HC.out]
          go_upto_region 18 with fail
          go_loopw [3, 58] (fun s j wr2 => ∃ m : Nat, m ≤ ats.length ∧ j = .int .i64 m ∧ s = .string (str (acc ++ 60 :: n ++ (ats.take m).flatMap atP)) ∧ Below wb.heap.size wb wr2) (fun _ j _ => ats.length - (intOf j).toNat)
          case atStart => exact ⟨0, by omega, rfl, by simp, Below.refl _ _⟩
          case round =>
            obtain ⟨m, hm, rfl, rfl, hbr2⟩ := hrel
            have HBR2 := Lib.hid hbr2
            have HROWR := Lib.hid ((hbr2.block KB (Array.getElem?_eq_some_iff.1 HROW.out).1).trans HROW.out)
            clear hbr2 z0 z1 z2 z3
            by_cases hmlt : m < ats.length
            · obtain ⟨a, ha⟩ : ∃ a, ats[m]? = some a := ⟨_, List.getElem?_eq_getElem hmlt⟩
              obtain ⟨b2, e2, d0, d1⟩ := RdSl.elem (HATS.out.below HBR2.out (Nat.le_refl _)) ha
              subst e2
              have havl := HXX.out.2 _ (List.mem_of_getElem? ha)
              have hsn := at_snoc ats m a ha
              have hle1 := at_le ats (m + 1)
              obtain ⟨an, av⟩ := a
              rw [hsn, List.length_append] at hle1
              have HSN2 := Lib.hid hsn
              have hel := esc_ge true av
              have hlen2 : (acc ++ 60 :: n ++ (ats.take m).flatMap atP).length + (atP (an, av)).length ≤ 100000000 := by
                have h1 := HTG.out
                simp only [List.length_append, List.length_cons] at *
                omega
              have hanI : ((str an).size : Int) ≤ 100000000 := by rw [size_str]; simp only [atP, List.length_cons, List.length_append] at hlen2; omega
              have heI : ((str (escS true av)).size : Int) ≤ 100000000 := by rw [size_str]; simp only [atP, List.length_cons, List.length_append] at hlen2; omega
              obtain ⟨A, hA⟩ : ∃ A, A = acc ++ 60 :: n ++ (ats.take m).flatMap atP := ⟨_, rfl⟩
              have haI : ((str A).size : Int) ≤ 100000000 := by rw [size_str, hA]; omega
              have HES := Lib.hid (fun w => refEscB true (str av) (by rw [size_str]; exact havl) w)
              rw [toList_str] at HES
              have HCAT := Lib.hid (cat_at an (escS true av))
              obtain ⟨ev, hev⟩ : ∃ ev, ev = escS true av := ⟨_, rfl⟩
              rw [← hev] at heI HES HCAT
              rw [← hA]
              have HEV := Lib.hid hev
              have HAE := Lib.hid hA
              obtain ⟨wd, hwd⟩ : ∃ wd, wd = wr.alloc (.cells #[.string (str an), .string (str av)] 46) := ⟨_, rfl⟩
              have hbd : Below wr.heap.size wr wd := by rw [hwd]; exact (Below.refl _ _).alloc (Nat.le_refl _) _
              have hrowd : wd.heap[wr.heap.size]? = some (.cells #[.string (str an), .string (str av)] 46 (0, 0)) := by rw [hwd]; exact heap_alloc_new wr _
              have HBD := Lib.hid (HBR2.out.trans (hbd.mono HBR2.out.size))
              have HROWD := Lib.hid hrowd
              have HWD := Lib.hid hwd
              have hmI : (m : Int) < (ats.length : Int) := by omega
              clear hwd hbd hrowd ha hsn hle1 hel hlen2 hev hA havl
              go_upto_region 20 with fail
              rw [← HWD.out]
              generalize wr.heap.size = AB at HROWD ⊢
              clear d0 d1
              have C0 := Lib.hid (fun (w1 : World) (hb : Below wd.heap.size wd w1) => (show w1.cell? ⟨AB, 0, none⟩ = some (.string (str an)) from by rw [cell_of_row w1 AB 0 _ _ (0, 0) ((hb.block AB (Array.getElem?_eq_some_iff.1 HROWD.out).1).trans HROWD.out)]; rfl))
              have C1 := Lib.hid (fun (w1 : World) (hb : Below wd.heap.size wd w1) => (show w1.cell? ⟨AB, 1, none⟩ = some (.string (str av)) from by rw [cell_of_row w1 AB 1 _ _ (0, 0) ((hb.block AB (Array.getElem?_eq_some_iff.1 HROWD.out).1).trans HROWD.out)]; rfl))
              have hsum2 : ((str an).size : Int) + ((str ev).size : Int) + ((str A).size : Int) ≤ 300000000 := by omega
              refine wp_region_held_drew (S := (fun w1 => Below wd.heap.size wd w1)) (by kernel_rfl) (by (try dsimp only); exact (Below.refl _ _).drew) (fun hHeld => ?_)
              generalize wd.drew = we at hHeld ⊢
              refine wpAnyH_take (i := 0) (v := ?_) (by (simp only [List.getElem?_toArray, List.getElem?_cons_succ, List.getElem?_cons_zero]; rfl)) (by kernel_rfl) (by kernel_rfl) (by kernel_rfl) (by intro _ _ _ h; exact h) (Or.inl ⟨by rfl, ?_⟩) (by assumption) ?_
              rotate_left
              · (intro w hSw; (try dsimp only at hSw); go_simp; try (with_reducible rfl))
              simp only [Act.put, List.setIfInBounds_toArray, List.set_cons_zero, List.set_cons_succ]
              refine wpAnyH_take (i := 1) (v := ?_) (by (simp only [List.getElem?_toArray, List.getElem?_cons_succ, List.getElem?_cons_zero]; rfl)) (by kernel_rfl) (by kernel_rfl) (by kernel_rfl) (by intro _ _ _ h; exact h) (Or.inl ⟨by rfl, ?_⟩) (by assumption) ?_
              rotate_left
              · (intro w hSw; (try dsimp only at hSw); go_simp; try (with_reducible rfl))
              simp only [Act.put, List.setIfInBounds_toArray, List.set_cons_zero, List.set_cons_succ]
              refine wpAnyH_take (i := 2) (v := ?_) (by (simp only [List.getElem?_toArray, List.getElem?_cons_succ, List.getElem?_cons_zero]; rfl)) (by kernel_rfl) (by kernel_rfl) (by kernel_rfl) (by intro _ _ _ h; exact h) (Or.inl ⟨by rfl, ?_⟩) (by assumption) ?_
              rotate_left
              · (intro w hSw; have q1 := C0.out w hSw; go_simp; try (with_reducible rfl))
              simp only [Act.put, List.setIfInBounds_toArray, List.set_cons_zero, List.set_cons_succ]
              refine wpAnyH_take (i := 3) (v := ?_) (by (simp only [List.getElem?_toArray, List.getElem?_cons_succ, List.getElem?_cons_zero]; rfl)) (by kernel_rfl) (by kernel_rfl) (by kernel_rfl) (by intro _ _ _ h; exact h) (Or.inl ⟨by rfl, ?_⟩) (by assumption) ?_
              rotate_left
              · (intro w hSw; (try dsimp only at hSw); go_simp; first | (with_reducible rfl) | (rw [if_neg (by omega)]; try (with_reducible rfl)))
              simp only [Act.put, List.setIfInBounds_toArray, List.set_cons_zero, List.set_cons_succ]
              refine wpAnyH_take (i := 4) (v := ?_) (by (simp only [List.getElem?_toArray, List.getElem?_cons_succ, List.getElem?_cons_zero]; rfl)) (by kernel_rfl) (by kernel_rfl) (by kernel_rfl) (by intro _ _ _ h; exact h) (Or.inl ⟨by rfl, ?_⟩) (by assumption) ?_
              rotate_left
              · (intro w hSw; (try dsimp only at hSw); go_simp; first | (with_reducible rfl) | (rw [if_neg (by omega)]; try (with_reducible rfl)))
              simp only [Act.put, List.setIfInBounds_toArray, List.set_cons_zero, List.set_cons_succ]
              refine wpAnyH_take (i := 5) (v := ?_) (by (simp only [List.getElem?_toArray, List.getElem?_cons_succ, List.getElem?_cons_zero]; rfl)) (by kernel_rfl) (by kernel_rfl) (by kernel_rfl) (by intro _ _ _ h; exact h) (Or.inl ⟨by rfl, ?_⟩) (by assumption) ?_
              rotate_left
              · (intro w hSw; (try dsimp only at hSw); go_simp; try (with_reducible rfl))
              simp only [Act.put, List.setIfInBounds_toArray, List.set_cons_zero, List.set_cons_succ]
              refine wpAnyH_take (i := 6) (v := ?_) (by (simp only [List.getElem?_toArray, List.getElem?_cons_succ, List.getElem?_cons_zero]; rfl)) (by kernel_rfl) (by kernel_rfl) (by kernel_rfl) (by intro _ _ _ h; exact h) (Or.inl ⟨by rfl, ?_⟩) (by assumption) ?_
              rotate_left
              · (intro w hSw; have q1 := C1.out w hSw; go_simp; try (with_reducible rfl))
              simp only [Act.put, List.setIfInBounds_toArray, List.set_cons_zero, List.set_cons_succ]
              refine wpAnyH_ready (rs := [7]) (by kernel_rfl) (by simp) ?_
              refine AllReadyH.cons (by (simp only [List.getElem?_toArray, List.getElem?_cons_succ, List.getElem?_cons_zero]; rfl)) (fun K hK => ?_) AllReadyH.nil
              go_simp
              go_at_call 22; refine (HES.out _).mono ?_; rintro e w6 ⟨rfl, hw6⟩
              refine hK.out _ _ (by (try dsimp only); rw [hw6]; exact hHeld) (fun hHeld => ?_)
              clear hK K
              try simp only [Act.put, List.setIfInBounds_toArray, List.set_cons_zero, List.set_cons_succ]
              clear hw6
              refine wpAnyH_take (i := 8) (v := ?_) (by (simp only [List.getElem?_toArray, List.getElem?_cons_succ, List.getElem?_cons_zero]; rfl)) (by kernel_rfl) (by kernel_rfl) (by kernel_rfl) (by intro _ _ _ h; exact h) (Or.inl ⟨by rfl, ?_⟩) (by assumption) ?_
              rotate_left
              · (intro w hSw; (try dsimp only at hSw); go_simp; first | (with_reducible rfl) | (rw [if_neg (by omega)]; try (with_reducible rfl)))
              simp only [Act.put, List.setIfInBounds_toArray, List.set_cons_zero, List.set_cons_succ]
              refine wpAnyH_take (i := 9) (v := ?_) (by (simp only [List.getElem?_toArray, List.getElem?_cons_succ, List.getElem?_cons_zero]; rfl)) (by kernel_rfl) (by kernel_rfl) (by kernel_rfl) (by intro _ _ _ h; exact h) (Or.inl ⟨by rfl, ?_⟩) (by assumption) ?_
              rotate_left
              · (intro w hSw; (try dsimp only at hSw); go_simp; first | (with_reducible rfl) | (rw [if_neg (by omega)]; try (with_reducible rfl)))
              simp only [Act.put, List.setIfInBounds_toArray, List.set_cons_zero, List.set_cons_succ]
              refine wpAnyH_take (i := 10) (v := ?_) (by (simp only [List.getElem?_toArray, List.getElem?_cons_succ, List.getElem?_cons_zero]; rfl)) (by kernel_rfl) (by kernel_rfl) (by kernel_rfl) (by intro _ _ _ h; exact h) (Or.inl ⟨by rfl, ?_⟩) (by assumption) ?_
              rotate_left
              · (intro w hSw; (try dsimp only at hSw); go_simp; first | (with_reducible rfl) | (rw [if_neg (by omega)]; try (with_reducible rfl)))
              simp only [Act.put, List.setIfInBounds_toArray, List.set_cons_zero, List.set_cons_succ]
              refine wpAnyH_take (i := 11) (v := ?_) (by (simp only [List.getElem?_toArray, List.getElem?_cons_succ, List.getElem?_cons_zero]; rfl)) (by kernel_rfl) (by kernel_rfl) (by kernel_rfl) (by intro _ _ _ h; exact h) (Or.inl ⟨by rfl, ?_⟩) (by assumption) ?_
              rotate_left
              · (intro w hSw; (try dsimp only at hSw); go_simp; try (with_reducible rfl))
              simp only [Act.put, List.setIfInBounds_toArray, List.set_cons_zero, List.set_cons_succ]
              refine wpAnyH_done (by kernel_rfl) ?_ _
              have HB6 := Lib.hid (HBD.out.trans (hHeld.mono HBD.out.size))
              clear hHeld hanI heI haI hsum2
              go_wp2
              go_roundw
              case rel => exact ⟨m + 1, by omega, by go_num, by rw [HCAT.out, app_str, HSN2.out, ← List.append_assoc, ← HAE.out, HEV.out]; rfl, HB6.out⟩
              case measure => simp [intOf]; omega
            · have hmle : (ats.length : Int) ≤ m := by omega
              have HTA2 := Lib.hid (show ats.take m = ats from List.take_of_length_le (by omega))
              have z0 : wr.cell? ⟨KB, 0, none⟩ = some (.int .i64 1) := by rw [cell_of_row wr _ 0 _ _ (0, 0) HROWR.out]; rfl
              have HB9 := Lib.hid (HBWB.out.trans (HBR2.out.mono HBWB.out.size))
              rw [HTA2.out]
              obtain ⟨A, hA⟩ : ∃ A, A = acc ++ 60 :: n ++ ats.flatMap atP := ⟨_, rfl⟩
              have haI : ((str A).size : Int) ≤ 100000000 := by
                rw [size_str, hA]
                have h1 := HTG.out
                simp only [List.length_append, List.length_cons] at *
                omega
              have HTX := Lib.hid (show prM (l.take (q + 1)) = A ++ [62] by rw [HSN.out, HP2.out, hA]; simp [tagP])
              rw [← hA]
              have HFIN := Lib.hid (show (str A ++ ⟨#[62]⟩ : ByteArray) = str (A ++ [62]) from by rw [app_lit])
              clear hA
              go_wp2
              go_roundw
              case rel => exact ⟨q + 1, by omega, by go_num, by rw [HTX.out]; exact congrArg Value.string HFIN.out, HB9.out⟩
              case measure => simp [intOf]; omega
        · have HP2 := Lib.hid (show prT 2 n ats t = tagP n ats ++ [47, 62] from rfl)
          clear HP HK q3 q4 q5 q6
          go_upto_region 17 with fail
          rw [HC.out]
          go_upto_region 18 with fail
          go_loopw [3, 58] (fun s j wr2 => ∃ m : Nat, m ≤ ats.length ∧ j = .int .i64 m ∧ s = .string (str (acc ++ 60 :: n ++ (ats.take m).flatMap atP)) ∧ Below wb.heap.size wb wr2) (fun _ j _ => ats.length - (intOf j).toNat)
          case atStart => exact ⟨0, by omega, rfl, by simp, Below.refl _ _⟩
          case round =>
            obtain ⟨m, hm, rfl, rfl, hbr2⟩ := hrel
            have HBR2 := Lib.hid hbr2
            have HROWR := Lib.hid ((hbr2.block KB (Array.getElem?_eq_some_iff.1 HROW.out).1).trans HROW.out)
            clear hbr2 z0 z1 z2 z3
            by_cases hmlt : m < ats.length
            · obtain ⟨a, ha⟩ : ∃ a, ats[m]? = some a := ⟨_, List.getElem?_eq_getElem hmlt⟩
              obtain ⟨b2, e2, d0, d1⟩ := RdSl.elem (HATS.out.below HBR2.out (Nat.le_refl _)) ha
              subst e2
              have havl := HXX.out.2 _ (List.mem_of_getElem? ha)
              have hsn := at_snoc ats m a ha
              have hle1 := at_le ats (m + 1)
              obtain ⟨an, av⟩ := a
              rw [hsn, List.length_append] at hle1
              have HSN2 := Lib.hid hsn
              have hel := esc_ge true av
              have hlen2 : (acc ++ 60 :: n ++ (ats.take m).flatMap atP).length + (atP (an, av)).length ≤ 100000000 := by
                have h1 := HTG.out
                simp only [List.length_append, List.length_cons] at *
                omega
              have hanI : ((str an).size : Int) ≤ 100000000 := by rw [size_str]; simp only [atP, List.length_cons, List.length_append] at hlen2; omega
              have heI : ((str (escS true av)).size : Int) ≤ 100000000 := by rw [size_str]; simp only [atP, List.length_cons, List.length_append] at hlen2; omega
              obtain ⟨A, hA⟩ : ∃ A, A = acc ++ 60 :: n ++ (ats.take m).flatMap atP := ⟨_, rfl⟩
              have haI : ((str A).size : Int) ≤ 100000000 := by rw [size_str, hA]; omega
              have HES := Lib.hid (fun w => refEscB true (str av) (by rw [size_str]; exact havl) w)
              rw [toList_str] at HES
              have HCAT := Lib.hid (cat_at an (escS true av))
              obtain ⟨ev, hev⟩ : ∃ ev, ev = escS true av := ⟨_, rfl⟩
              rw [← hev] at heI HES HCAT
              rw [← hA]
              have HEV := Lib.hid hev
              have HAE := Lib.hid hA
              obtain ⟨wd, hwd⟩ : ∃ wd, wd = wr.alloc (.cells #[.string (str an), .string (str av)] 46) := ⟨_, rfl⟩
              have hbd : Below wr.heap.size wr wd := by rw [hwd]; exact (Below.refl _ _).alloc (Nat.le_refl _) _
              have hrowd : wd.heap[wr.heap.size]? = some (.cells #[.string (str an), .string (str av)] 46 (0, 0)) := by rw [hwd]; exact heap_alloc_new wr _
              have HBD := Lib.hid (HBR2.out.trans (hbd.mono HBR2.out.size))
              have HROWD := Lib.hid hrowd
              have HWD := Lib.hid hwd
              have hmI : (m : Int) < (ats.length : Int) := by omega
              clear hwd hbd hrowd ha hsn hle1 hel hlen2 hev hA havl
              go_upto_region 20 with fail
              rw [← HWD.out]
              generalize wr.heap.size = AB at HROWD ⊢
              clear d0 d1
              have C0 := Lib.hid (fun (w1 : World) (hb : Below wd.heap.size wd w1) => (show w1.cell? ⟨AB, 0, none⟩ = some (.string (str an)) from by rw [cell_of_row w1 AB 0 _ _ (0, 0) ((hb.block AB (Array.getElem?_eq_some_iff.1 HROWD.out).1).trans HROWD.out)]; rfl))
              have C1 := Lib.hid (fun (w1 : World) (hb : Below wd.heap.size wd w1) => (show w1.cell? ⟨AB, 1, none⟩ = some (.string (str av)) from by rw [cell_of_row w1 AB 1 _ _ (0, 0) ((hb.block AB (Array.getElem?_eq_some_iff.1 HROWD.out).1).trans HROWD.out)]; rfl))
              have hsum2 : ((str an).size : Int) + ((str ev).size : Int) + ((str A).size : Int) ≤ 300000000 := by omega
              refine wp_region_held_drew (S := (fun w1 => Below wd.heap.size wd w1)) (by kernel_rfl) (by (try dsimp only); exact (Below.refl _ _).drew) (fun hHeld => ?_)
              generalize wd.drew = we at hHeld ⊢
              refine wpAnyH_take (i := 0) (v := ?_) (by (simp only [List.getElem?_toArray, List.getElem?_cons_succ, List.getElem?_cons_zero]; rfl)) (by kernel_rfl) (by kernel_rfl) (by kernel_rfl) (by intro _ _ _ h; exact h) (Or.inl ⟨by rfl, ?_⟩) (by assumption) ?_
              rotate_left
              · (intro w hSw; (try dsimp only at hSw); go_simp; try (with_reducible rfl))
              simp only [Act.put, List.setIfInBounds_toArray, List.set_cons_zero, List.set_cons_succ]
              refine wpAnyH_take (i := 1) (v := ?_) (by (simp only [List.getElem?_toArray, List.getElem?_cons_succ, List.getElem?_cons_zero]; rfl)) (by kernel_rfl) (by kernel_rfl) (by kernel_rfl) (by intro _ _ _ h; exact h) (Or.inl ⟨by rfl, ?_⟩) (by assumption) ?_
              rotate_left
              · (intro w hSw; (try dsimp only at hSw); go_simp; try (with_reducible rfl))
              simp only [Act.put, List.setIfInBounds_toArray, List.set_cons_zero, List.set_cons_succ]
              refine wpAnyH_take (i := 2) (v := ?_) (by (simp only [List.getElem?_toArray, List.getElem?_cons_succ, List.getElem?_cons_zero]; rfl)) (by kernel_rfl) (by kernel_rfl) (by kernel_rfl) (by intro _ _ _ h; exact h) (Or.inl ⟨by rfl, ?_⟩) (by assumption) ?_
              rotate_left
              · (intro w hSw; have q1 := C0.out w hSw; go_simp; try (with_reducible rfl))
              simp only [Act.put, List.setIfInBounds_toArray, List.set_cons_zero, List.set_cons_succ]
              refine wpAnyH_take (i := 3) (v := ?_) (by (simp only [List.getElem?_toArray, List.getElem?_cons_succ, List.getElem?_cons_zero]; rfl)) (by kernel_rfl) (by kernel_rfl) (by kernel_rfl) (by intro _ _ _ h; exact h) (Or.inl ⟨by rfl, ?_⟩) (by assumption) ?_
              rotate_left
              · (intro w hSw; (try dsimp only at hSw); go_simp; first | (with_reducible rfl) | (rw [if_neg (by omega)]; try (with_reducible rfl)))
              simp only [Act.put, List.setIfInBounds_toArray, List.set_cons_zero, List.set_cons_succ]
              refine wpAnyH_take (i := 4) (v := ?_) (by (simp only [List.getElem?_toArray, List.getElem?_cons_succ, List.getElem?_cons_zero]; rfl)) (by kernel_rfl) (by kernel_rfl) (by kernel_rfl) (by intro _ _ _ h; exact h) (Or.inl ⟨by rfl, ?_⟩) (by assumption) ?_
              rotate_left
              · (intro w hSw; (try dsimp only at hSw); go_simp; first | (with_reducible rfl) | (rw [if_neg (by omega)]; try (with_reducible rfl)))
              simp only [Act.put, List.setIfInBounds_toArray, List.set_cons_zero, List.set_cons_succ]
              refine wpAnyH_take (i := 5) (v := ?_) (by (simp only [List.getElem?_toArray, List.getElem?_cons_succ, List.getElem?_cons_zero]; rfl)) (by kernel_rfl) (by kernel_rfl) (by kernel_rfl) (by intro _ _ _ h; exact h) (Or.inl ⟨by rfl, ?_⟩) (by assumption) ?_
              rotate_left
              · (intro w hSw; (try dsimp only at hSw); go_simp; try (with_reducible rfl))
              simp only [Act.put, List.setIfInBounds_toArray, List.set_cons_zero, List.set_cons_succ]
              refine wpAnyH_take (i := 6) (v := ?_) (by (simp only [List.getElem?_toArray, List.getElem?_cons_succ, List.getElem?_cons_zero]; rfl)) (by kernel_rfl) (by kernel_rfl) (by kernel_rfl) (by intro _ _ _ h; exact h) (Or.inl ⟨by rfl, ?_⟩) (by assumption) ?_
              rotate_left
              · (intro w hSw; have q1 := C1.out w hSw; go_simp; try (with_reducible rfl))
              simp only [Act.put, List.setIfInBounds_toArray, List.set_cons_zero, List.set_cons_succ]
              refine wpAnyH_ready (rs := [7]) (by kernel_rfl) (by simp) ?_
              refine AllReadyH.cons (by (simp only [List.getElem?_toArray, List.getElem?_cons_succ, List.getElem?_cons_zero]; rfl)) (fun K hK => ?_) AllReadyH.nil
              go_simp
              go_at_call 22; refine (HES.out _).mono ?_; rintro e w6 ⟨rfl, hw6⟩
              refine hK.out _ _ (by (try dsimp only); rw [hw6]; exact hHeld) (fun hHeld => ?_)
              clear hK K
              try simp only [Act.put, List.setIfInBounds_toArray, List.set_cons_zero, List.set_cons_succ]
              clear hw6
              refine wpAnyH_take (i := 8) (v := ?_) (by (simp only [List.getElem?_toArray, List.getElem?_cons_succ, List.getElem?_cons_zero]; rfl)) (by kernel_rfl) (by kernel_rfl) (by kernel_rfl) (by intro _ _ _ h; exact h) (Or.inl ⟨by rfl, ?_⟩) (by assumption) ?_
              rotate_left
              · (intro w hSw; (try dsimp only at hSw); go_simp; first | (with_reducible rfl) | (rw [if_neg (by omega)]; try (with_reducible rfl)))
              simp only [Act.put, List.setIfInBounds_toArray, List.set_cons_zero, List.set_cons_succ]
              refine wpAnyH_take (i := 9) (v := ?_) (by (simp only [List.getElem?_toArray, List.getElem?_cons_succ, List.getElem?_cons_zero]; rfl)) (by kernel_rfl) (by kernel_rfl) (by kernel_rfl) (by intro _ _ _ h; exact h) (Or.inl ⟨by rfl, ?_⟩) (by assumption) ?_
              rotate_left
              · (intro w hSw; (try dsimp only at hSw); go_simp; first | (with_reducible rfl) | (rw [if_neg (by omega)]; try (with_reducible rfl)))
              simp only [Act.put, List.setIfInBounds_toArray, List.set_cons_zero, List.set_cons_succ]
              refine wpAnyH_take (i := 10) (v := ?_) (by (simp only [List.getElem?_toArray, List.getElem?_cons_succ, List.getElem?_cons_zero]; rfl)) (by kernel_rfl) (by kernel_rfl) (by kernel_rfl) (by intro _ _ _ h; exact h) (Or.inl ⟨by rfl, ?_⟩) (by assumption) ?_
              rotate_left
              · (intro w hSw; (try dsimp only at hSw); go_simp; first | (with_reducible rfl) | (rw [if_neg (by omega)]; try (with_reducible rfl)))
              simp only [Act.put, List.setIfInBounds_toArray, List.set_cons_zero, List.set_cons_succ]
              refine wpAnyH_take (i := 11) (v := ?_) (by (simp only [List.getElem?_toArray, List.getElem?_cons_succ, List.getElem?_cons_zero]; rfl)) (by kernel_rfl) (by kernel_rfl) (by kernel_rfl) (by intro _ _ _ h; exact h) (Or.inl ⟨by rfl, ?_⟩) (by assumption) ?_
              rotate_left
              · (intro w hSw; (try dsimp only at hSw); go_simp; try (with_reducible rfl))
              simp only [Act.put, List.setIfInBounds_toArray, List.set_cons_zero, List.set_cons_succ]
              refine wpAnyH_done (by kernel_rfl) ?_ _
              have HB6 := Lib.hid (HBD.out.trans (hHeld.mono HBD.out.size))
              clear hHeld hanI heI haI hsum2
              go_wp2
              go_roundw
              case rel => exact ⟨m + 1, by omega, by go_num, by rw [HCAT.out, app_str, HSN2.out, ← List.append_assoc, ← HAE.out, HEV.out]; rfl, HB6.out⟩
              case measure => simp [intOf]; omega
            · have hmle : (ats.length : Int) ≤ m := by omega
              have HTA2 := Lib.hid (show ats.take m = ats from List.take_of_length_le (by omega))
              have z0 : wr.cell? ⟨KB, 0, none⟩ = some (.int .i64 2) := by rw [cell_of_row wr _ 0 _ _ (0, 0) HROWR.out]; rfl
              have HB9 := Lib.hid (HBWB.out.trans (HBR2.out.mono HBWB.out.size))
              rw [HTA2.out]
              obtain ⟨A, hA⟩ : ∃ A, A = acc ++ 60 :: n ++ ats.flatMap atP := ⟨_, rfl⟩
              have haI : ((str A).size : Int) ≤ 100000000 := by
                rw [size_str, hA]
                have h1 := HTG.out
                simp only [List.length_append, List.length_cons] at *
                omega
              have HTX := Lib.hid (show prM (l.take (q + 1)) = A ++ [47, 62] by rw [HSN.out, HP2.out, hA]; simp [tagP])
              rw [← hA]
              have HFIN := Lib.hid (show (str A ++ ⟨#[47]⟩ ++ ⟨#[62]⟩ : ByteArray) = str (A ++ [47, 62]) from by rw [app_lit, app_lit]; simp)
              clear hA
              go_wp2
              go_roundw
              case rel => exact ⟨q + 1, by omega, by go_num, by rw [HTX.out]; exact congrArg Value.string HFIN.out, HB9.out⟩
              case measure => simp [intOf]; omega
    · have hle : (l.length : Int) ≤ q := by omega
      have HTA := Lib.hid (show l.take q = l from List.take_of_length_le (by omega))
      go_wp2
      go_ret
      exact ⟨ret_str (by rw [HTA.out]), HBR.out⟩
end Go.Proofs.Ytldgjiohigiioaa
