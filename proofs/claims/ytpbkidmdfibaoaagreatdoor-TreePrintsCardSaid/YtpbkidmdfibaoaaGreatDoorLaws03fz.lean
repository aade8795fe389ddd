/-
  Layer 3: the card TreePrints: any tree, printed, and whether it may be. For every input. (With the parts RPrt3, MayT3, MayC3, MayW3.) Own work.
-/
import Derived.Test.YtpbkidmdfibaoaaGreatDoorPrtZ3
import Derived.Maps.OwnSet
import Derived.WideKeyEntry
import Derived.DeepKeys4
import Derived.Laws.EntriesVeiled
import Derived.Test.YtpbkidmdfibaoaaGreatDoorLives3
import Derived.Test.YtpbkidmdfibaoaaGreatDoorOpenN3
import Derived.Test.YtpbkidmdfibaoaaGreatDoorDoor
import Derived.Lib.LaidU8
namespace Go.Proofs.YtpbkidmdfibaoaaGreatDoor
set_option linter.unusedVariables false
set_option linter.unusedSimpArgs false


/-! RPrt3 -/
section
open Go.RowKit

def RPS (x : Tr) : Prop := ∀ (va vk : Value) (w : World), NdV w (allF w) x va vk → (prM (tkT x)).length ≤ 100000000 → x.tb →
  Calls Tryz.prog 14 #[nodeV x va vk] w fun e w' => e = .returned (.string (str (prM (tkT x)))) ∧ Below w.heap.size w w'
theorem prM_full (x : Tr) (h : x.n ≠ []) (hk : x.ks ≠ []) : prM (tkT x) = 60 :: x.n ++ x.ats.flatMap atP ++ [62] ++ prM (tkL x.ks) ++ ([60, 47] ++ x.n ++ [62]) := by
  rw [tkT_full h hk, prM_cons, prM_app3]
  show ((60 :: (x.n ++ x.ats.flatMap atP) ++ [62]) ++ (prM (tkL x.ks) ++ (60 :: 47 :: (x.n ++ [62]) ++ []))) = _
  simp
theorem prM_empty (x : Tr) (h : x.n ≠ []) (hk : x.ks = []) : prM (tkT x) = 60 :: x.n ++ x.ats.flatMap atP ++ [47, 62] := by
  rw [tkT_empty h hk, prM_cons]
  show (60 :: (x.n ++ x.ats.flatMap atP) ++ [47, 62]) ++ [] = _
  simp
theorem prM_text (x : Tr) (h : x.n = []) : prM (tkT x) = escS false x.t := by
  rw [tkT_text h, prM_cons]
  show escS false x.t ++ [] = _
  simp
theorem prL_le (l : List Tr) (k : Nat) : (prM (tkL (l.take k))).length ≤ (prM (tkL l)).length := by
  have := tkL_app (l.take k) (l.drop k)
  rw [List.take_append_drop] at this
  rw [this, prM_app3, List.length_append]; omega
set_option maxRecDepth 100000 in
set_option maxHeartbeats 8000000 in
theorem rprt_step (x : Tr) (hS : ∀ k ∈ x.ks, RPS k) : RPS x := by
  intro va vk w hx hlen htb
  obtain ⟨c1, c2, c3, c4, rfl, rfl⟩ := node_cells hx
  unfold nodeV
  obtain ⟨w1, hw1⟩ : ∃ w1, w1 = w.alloc (.cells #[.string (str x.n), .slice c1 x.ats.length c2, .slice c3 x.ks.length c4, .string (str x.t)] 26) := ⟨_, rfl⟩
  have hb1 : Below w.heap.size w w1 := by rw [hw1]; exact (Below.refl _ _).alloc (Nat.le_refl _) _
  have hX : w1.heap[w.heap.size]? = some (.cells #[.string (str x.n), .slice c1 x.ats.length c2, .slice c3 x.ks.length c4, .string (str x.t)] 26 (0, 0)) := by rw [hw1]; exact heap_alloc_new w _
  have HXC := Lib.hid (show ∀ w2, Below w1.heap.size w1 w2 → Sr3 w.heap.size x c1 c2 c3 c4 w2 from fun w2 hb => Sr3.below ⟨by rw [cell_of_row w1 _ 0 _ _ (0, 0) hX]; rfl, by rw [cell_of_row w1 _ 1 _ _ (0, 0) hX]; rfl, by rw [cell_of_row w1 _ 2 _ _ (0, 0) hX]; rfl, by rw [cell_of_row w1 _ 3 _ _ (0, 0) hX]; rfl⟩ hb (Nat.le_refl _))
  have hup : ∀ w2, Below w1.heap.size w1 w2 → Below w.heap.size w w2 := fun w2 hb => hb1.trans (hb.mono hb1.size)
  have HUP := Lib.hid hup
  have HN := Lib.hid (show ∀ w2, Below w1.heap.size w1 w2 → NdV w2 (allF w2) x (.slice c1 x.ats.length c2) (.slice c3 x.ks.length c4) from fun w2 hb => hx.onto (hup w2 hb) (Nat.le_refl _))
  have htt : x.n.length ≤ 100000 ∧ x.t.length ≤ 100000 ∧ (∀ p ∈ x.ats, p.1.length ≤ 100000 ∧ p.2.length ≤ 100000) ∧ Tr.tbs x.ks := by cases x; exact htb
  have HTB := Lib.hid htt
  have HLEN := Lib.hid hlen
  have HS := Lib.hid hS
  have HW1 := Lib.hid hw1
  clear hx hw1 hb1 hX hup htt htb hlen hS
  go_enter Tryz.func14, Tryz.ntmps14
  go_upto_region 1 with fail
  rw [← HW1.out]
  clear HW1
  obtain ⟨x0, x1, x2, x3⟩ := HXC.out w1 (Below.refl _ _)
  by_cases hn : x.n = []
  · have HP := Lib.hid (prM_text x hn)
    have hs0 : ((str x.n).toList == []) = true := by rw [empB_str, hn]; rfl
    have HES := Lib.hid (fun w => refEscB false (str x.t) (by rw [size_str]; have := HTB.out.2.1; omega) w)
    rw [toList_str] at HES
    clear hn
    go_wp2_with fail
    refine (HES.out _).mono ?_
    rintro e w2 ⟨rfl, hw2⟩
    obtain rfl : w1 = w2 := hw2.symm
    clear x0 x1 x2 x3
    go_wp2
    go_ret
    exact ⟨ret_str (by rw [HP.out]), HUP.out _ (Below.refl _ _)⟩
  have hs0 : ((str x.n).toList == []) = false := by rw [empB_str]; exact decide_eq_false hn
  have HNN := Lib.hid hn
  clear hn
  have HT2 := Lib.hid (show 1 + x.n.length + (x.ats.flatMap atP).length + 2 ≤ 100000000 ∧ (x.ks ≠ [] → 1 + x.n.length + (x.ats.flatMap atP).length + 1 + (prM (tkL x.ks)).length + x.n.length + 3 ≤ 100000000) by
    have h1 := HLEN.out
    by_cases hk : x.ks = []
    · rw [prM_empty x HNN.out hk] at h1
      simp only [List.length_append, List.length_cons, List.length_nil] at h1
      exact ⟨by omega, fun h => absurd hk h⟩
    · rw [prM_full x HNN.out hk] at h1
      simp only [List.length_append, List.length_cons, List.length_nil] at h1
      exact ⟨by omega, fun _ => by omega⟩)
  have hnI : ((str x.n).size : Int) ≤ 100000000 := by rw [size_str]; have := HT2.out.1; omega
  have HC := Lib.hid (show (⟨#[60]⟩ : ByteArray) ++ str x.n = str (60 :: x.n) from app_str [60] x.n)
  go_upto_region 4 with fail
  rw [HC.out]
  clear x0 x1 x2 x3
  obtain ⟨x0, x1, x2, x3⟩ := HXC.out w1 (Below.refl _ _)
  have hal := (HN.out w1 (Below.refl _ _)).ats.len
  have halI : (x.ats.length : Int) ≤ 9223372036854775807 := by omega
  have HATS := Lib.hid (HN.out w1 (Below.refl _ _)).ats
  go_upto_region 5 with fail
  clear x0 x1 x2 x3 hal
  go_loopw [3, 20] (fun s j wr2 => ∃ m : Nat, m ≤ x.ats.length ∧ j = .int .i64 m ∧ s = .string (str (60 :: x.n ++ (x.ats.take m).flatMap atP)) ∧ Below w1.heap.size w1 wr2) (fun _ j _ => x.ats.length - (intOf j).toNat)
  case atStart => exact ⟨0, by omega, rfl, by simp, Below.refl _ _⟩
  case round =>
    obtain ⟨m, hm, rfl, rfl, hbr2⟩ := hrel
    have HBR2 := Lib.hid hbr2
    clear hbr2
    by_cases hmlt : m < x.ats.length
    · obtain ⟨a, ha⟩ : ∃ a, x.ats[m]? = some a := ⟨_, List.getElem?_eq_getElem hmlt⟩
      obtain ⟨b2, e2, d0, d1⟩ := RdSl.elem (HATS.out.below HBR2.out (Nat.le_refl _)) ha
      subst e2
      have havl := (HTB.out.2.2.1 _ (List.mem_of_getElem? ha)).2
      have hsn := at_snoc x.ats m a ha
      have hle1 := at_le x.ats (m + 1)
      obtain ⟨an, av⟩ := a
      rw [hsn, List.length_append] at hle1
      have HSN2 := Lib.hid hsn
      have hel := esc_ge true av
      have hlen2 : (60 :: x.n ++ (x.ats.take m).flatMap atP).length + (atP (an, av)).length ≤ 100000000 := by
        have h1 := HT2.out.1
        simp only [List.length_append, List.length_cons] at *
        omega
      have hanI : ((str an).size : Int) ≤ 100000000 := by rw [size_str]; simp only [atP, List.length_cons, List.length_append] at hlen2; omega
      have heI : ((str (escS true av)).size : Int) ≤ 100000000 := by rw [size_str]; simp only [atP, List.length_cons, List.length_append] at hlen2; omega
      obtain ⟨A, hA⟩ : ∃ A, A = 60 :: x.n ++ (x.ats.take m).flatMap atP := ⟨_, rfl⟩
      have haI : ((str A).size : Int) ≤ 100000000 := by rw [size_str, hA]; omega
      have HES := Lib.hid (fun w => refEscB true (str av) (by rw [size_str]; dsimp only at havl; omega) w)
      rw [toList_str] at HES
      have HCAT := Lib.hid (cat_at an (escS true av))
      obtain ⟨ev, hev⟩ : ∃ ev, ev = escS true av := ⟨_, rfl⟩
      rw [← hev] at heI HES HCAT
      rw [← hA]
      have HEV := Lib.hid hev
      have HAE := Lib.hid hA
      obtain ⟨wd, hwd⟩ : ∃ wd, wd = wr.alloc (.cells #[.string (str an), .string (str av)] 68) := ⟨_, rfl⟩
      have hbd : Below wr.heap.size wr wd := by rw [hwd]; exact (Below.refl _ _).alloc (Nat.le_refl _) _
      have hrowd : wd.heap[wr.heap.size]? = some (.cells #[.string (str an), .string (str av)] 68 (0, 0)) := by rw [hwd]; exact heap_alloc_new wr _
      have HBD := Lib.hid (HBR2.out.trans (hbd.mono HBR2.out.size))
      have HROWD := Lib.hid hrowd
      have HWD := Lib.hid hwd
      have hmI : (m : Int) < (x.ats.length : Int) := by omega
      clear hwd hbd hrowd ha hsn hle1 hel hlen2 hev hA havl
      go_upto_region 7 with fail
      rw [← HWD.out]
      generalize wr.heap.size = AB at HROWD ⊢
      clear d0 d1
      have C0 := Lib.hid (fun (w1 : World) (hb : Below wd.heap.size wd w1) => (show w1.cell? ⟨AB, 0, none⟩ = some (.string (str an)) from by rw [cell_of_row w1 AB 0 _ _ (0, 0) ((hb.block AB (Array.getElem?_eq_some_iff.1 HROWD.out).1).trans HROWD.out)]; rfl))
      have C1 := Lib.hid (fun (w1 : World) (hb : Below wd.heap.size wd w1) => (show w1.cell? ⟨AB, 1, none⟩ = some (.string (str av)) from by rw [cell_of_row w1 AB 1 _ _ (0, 0) ((hb.block AB (Array.getElem?_eq_some_iff.1 HROWD.out).1).trans HROWD.out)]; rfl))
      have hsum2 : ((str an).size : Int) + ((str ev).size : Int) + ((str A).size : Int) ≤ 300000000 := by omega
      refine wp_region_held_drew (S := (fun w1 => Below wd.heap.size wd w1)) (by kernel_rfl) (by (try dsimp only); exact (Below.refl _ _).drew) (fun hHeld => ?_)
      generalize wd.drew = we at hHeld ⊢
      refine wpAnyH_take (i := 0) (v := ?_) (by (simp only [List.getElem?_toArray, List.getElem?_cons_succ, List.getElem?_cons_zero]; rfl)) (by kernel_rfl) (by kernel_rfl) (by kernel_rfl) (by intro _ _ _ h; exact h) (Or.inl ⟨by rfl, ?_⟩) (by assumption) ?_
      rotate_left
      · (intro w hSw; (try dsimp only at hSw); go_simp; try (with_reducible rfl))
      simp only [Act.put, List.setIfInBounds_toArray, List.set_cons_zero, List.set_cons_succ]
      refine wpAnyH_take (i := 1) (v := ?_) (by (simp only [List.getElem?_toArray, List.getElem?_cons_succ, List.getElem?_cons_zero]; rfl)) (by kernel_rfl) (by kernel_rfl) (by kernel_rfl) (by intro _ _ _ h; exact h) (Or.inl ⟨by rfl, ?_⟩) (by assumption) ?_
      rotate_left
      · (intro w hSw; (try dsimp only at hSw); go_simp; try (with_reducible rfl))
      simp only [Act.put, List.setIfInBounds_toArray, List.set_cons_zero, List.set_cons_succ]
      refine wpAnyH_take (i := 2) (v := ?_) (by (simp only [List.getElem?_toArray, List.getElem?_cons_succ, List.getElem?_cons_zero]; rfl)) (by kernel_rfl) (by kernel_rfl) (by kernel_rfl) (by intro _ _ _ h; exact h) (Or.inl ⟨by rfl, ?_⟩) (by assumption) ?_
      rotate_left
      · (intro w hSw; have q1 := C0.out w hSw; go_simp; try (with_reducible rfl))
      simp only [Act.put, List.setIfInBounds_toArray, List.set_cons_zero, List.set_cons_succ]
      refine wpAnyH_take (i := 3) (v := ?_) (by (simp only [List.getElem?_toArray, List.getElem?_cons_succ, List.getElem?_cons_zero]; rfl)) (by kernel_rfl) (by kernel_rfl) (by kernel_rfl) (by intro _ _ _ h; exact h) (Or.inl ⟨by rfl, ?_⟩) (by assumption) ?_
      rotate_left
      · (intro w hSw; (try dsimp only at hSw); go_simp; first | (with_reducible rfl) | (rw [if_neg (by omega)]; try (with_reducible rfl)))
      simp only [Act.put, List.setIfInBounds_toArray, List.set_cons_zero, List.set_cons_succ]
      refine wpAnyH_take (i := 4) (v := ?_) (by (simp only [List.getElem?_toArray, List.getElem?_cons_succ, List.getElem?_cons_zero]; rfl)) (by kernel_rfl) (by kernel_rfl) (by kernel_rfl) (by intro _ _ _ h; exact h) (Or.inl ⟨by rfl, ?_⟩) (by assumption) ?_
      rotate_left
      · (intro w hSw; (try dsimp only at hSw); go_simp; first | (with_reducible rfl) | (rw [if_neg (by omega)]; try (with_reducible rfl)))
      simp only [Act.put, List.setIfInBounds_toArray, List.set_cons_zero, List.set_cons_succ]
      refine wpAnyH_take (i := 5) (v := ?_) (by (simp only [List.getElem?_toArray, List.getElem?_cons_succ, List.getElem?_cons_zero]; rfl)) (by kernel_rfl) (by kernel_rfl) (by kernel_rfl) (by intro _ _ _ h; exact h) (Or.inl ⟨by rfl, ?_⟩) (by assumption) ?_
      rotate_left
      · (intro w hSw; (try dsimp only at hSw); go_simp; try (with_reducible rfl))
      simp only [Act.put, List.setIfInBounds_toArray, List.set_cons_zero, List.set_cons_succ]
      refine wpAnyH_take (i := 6) (v := ?_) (by (simp only [List.getElem?_toArray, List.getElem?_cons_succ, List.getElem?_cons_zero]; rfl)) (by kernel_rfl) (by kernel_rfl) (by kernel_rfl) (by intro _ _ _ h; exact h) (Or.inl ⟨by rfl, ?_⟩) (by assumption) ?_
      rotate_left
      · (intro w hSw; have q1 := C1.out w hSw; go_simp; try (with_reducible rfl))
      simp only [Act.put, List.setIfInBounds_toArray, List.set_cons_zero, List.set_cons_succ]
      refine wpAnyH_ready (rs := [7]) (by kernel_rfl) (by simp) ?_
      refine AllReadyH.cons (by (simp only [List.getElem?_toArray, List.getElem?_cons_succ, List.getElem?_cons_zero]; rfl)) (fun K hK => ?_) AllReadyH.nil
      go_simp
      go_at_call 30; refine (HES.out _).mono ?_; rintro e w6 ⟨rfl, hw6⟩
      refine hK.out _ _ (by (try dsimp only); rw [hw6]; exact hHeld) (fun hHeld => ?_)
      clear hK K
      try simp only [Act.put, List.setIfInBounds_toArray, List.set_cons_zero, List.set_cons_succ]
      clear hw6
      refine wpAnyH_take (i := 8) (v := ?_) (by (simp only [List.getElem?_toArray, List.getElem?_cons_succ, List.getElem?_cons_zero]; rfl)) (by kernel_rfl) (by kernel_rfl) (by kernel_rfl) (by intro _ _ _ h; exact h) (Or.inl ⟨by rfl, ?_⟩) (by assumption) ?_
      rotate_left
      · (intro w hSw; (try dsimp only at hSw); go_simp; first | (with_reducible rfl) | (rw [if_neg (by omega)]; try (with_reducible rfl)))
      simp only [Act.put, List.setIfInBounds_toArray, List.set_cons_zero, List.set_cons_succ]
      refine wpAnyH_take (i := 9) (v := ?_) (by (simp only [List.getElem?_toArray, List.getElem?_cons_succ, List.getElem?_cons_zero]; rfl)) (by kernel_rfl) (by kernel_rfl) (by kernel_rfl) (by intro _ _ _ h; exact h) (Or.inl ⟨by rfl, ?_⟩) (by assumption) ?_
      rotate_left
      · (intro w hSw; (try dsimp only at hSw); go_simp; first | (with_reducible rfl) | (rw [if_neg (by omega)]; try (with_reducible rfl)))
      simp only [Act.put, List.setIfInBounds_toArray, List.set_cons_zero, List.set_cons_succ]
      refine wpAnyH_take (i := 10) (v := ?_) (by (simp only [List.getElem?_toArray, List.getElem?_cons_succ, List.getElem?_cons_zero]; rfl)) (by kernel_rfl) (by kernel_rfl) (by kernel_rfl) (by intro _ _ _ h; exact h) (Or.inl ⟨by rfl, ?_⟩) (by assumption) ?_
      rotate_left
      · (intro w hSw; (try dsimp only at hSw); go_simp; first | (with_reducible rfl) | (rw [if_neg (by omega)]; try (with_reducible rfl)))
      simp only [Act.put, List.setIfInBounds_toArray, List.set_cons_zero, List.set_cons_succ]
      refine wpAnyH_take (i := 11) (v := ?_) (by (simp only [List.getElem?_toArray, List.getElem?_cons_succ, List.getElem?_cons_zero]; rfl)) (by kernel_rfl) (by kernel_rfl) (by kernel_rfl) (by intro _ _ _ h; exact h) (Or.inl ⟨by rfl, ?_⟩) (by assumption) ?_
      rotate_left
      · (intro w hSw; (try dsimp only at hSw); go_simp; try (with_reducible rfl))
      simp only [Act.put, List.setIfInBounds_toArray, List.set_cons_zero, List.set_cons_succ]
      refine wpAnyH_done (by kernel_rfl) ?_ _
      have HB6 := Lib.hid (HBD.out.trans (hHeld.mono HBD.out.size))
      clear hHeld hanI heI haI hsum2
      go_wp2
      go_roundw
      case rel => exact ⟨m + 1, by omega, by go_num, by rw [HCAT.out, app_str, HSN2.out, ← List.append_assoc, ← HAE.out, HEV.out]; rfl, HB6.out⟩
      case measure => simp [intOf]; omega
    · have hmle : (x.ats.length : Int) ≤ m := by omega
      have HTA2 := Lib.hid (show x.ats.take m = x.ats from List.take_of_length_le (by omega))
      rw [HTA2.out]
      obtain ⟨A, hA⟩ : ∃ A, A = 60 :: x.n ++ x.ats.flatMap atP := ⟨_, rfl⟩
      have hA3 : A.length = 1 + x.n.length + (x.ats.flatMap atP).length := by rw [hA]; simp only [List.length_append, List.length_cons]; omega
      have haI : ((str A).size : Int) ≤ 100000000 := by rw [size_str, hA3]; have := HT2.out.1; omega
      rw [← hA]
      have HA := Lib.hid hA
      have HA3 := Lib.hid hA3
      clear hA hA3
      obtain ⟨x0, x1, x2, x3⟩ := HXC.out wr HBR2.out
      by_cases hk : x.ks = []
      · have HTX := Lib.hid (show prM (tkT x) = A ++ [47, 62] by rw [prM_empty x HNN.out hk, HA.out])
        have hk0 : ((x.ks.length : Int) == 0) = true := by rw [hk]; rfl
        have HFIN := Lib.hid (show str A ++ (⟨#[47, 62]⟩ : ByteArray) = str (A ++ [47, 62]) from app_str A [47, 62])
        clear hk
        go_wp2
        go_ret
        exact ⟨ret_str (by rw [HTX.out]; exact HFIN.out), HUP.out _ HBR2.out⟩
      have HTX := Lib.hid (show prM (tkT x) = A ++ [62] ++ prM (tkL x.ks) ++ ([60, 47] ++ x.n ++ [62]) by rw [prM_full x HNN.out hk, HA.out])
      have HT3 := Lib.hid (HT2.out.2 hk)
      have hk0 : ((x.ks.length : Int) == 0) = false := by
        have := List.length_pos_iff.2 hk
        rw [beq_eq_false_iff_ne]; omega
      obtain ⟨S0, hS0⟩ : ∃ S0, S0 = A ++ [62] ++ prM (tkL (x.ks.take 0)) := ⟨_, rfl⟩
      have HF2 := Lib.hid (show str A ++ (⟨#[62]⟩ : ByteArray) = str S0 from by rw [hS0, List.take_zero]; show str A ++ (⟨#[62]⟩ : ByteArray) = str (A ++ [62] ++ []); rw [List.append_nil]; exact app_str A [62])
      have HS0 := Lib.hid hS0
      clear hS0
      have hkl := ((HN.out wr HBR2.out).rd).len
      have hkI : (x.ks.length : Int) ≤ 9223372036854775807 := by omega
      clear hk
      go_upto_region 13 with fail
      rw [HF2.out]
      clear x0 x1 x2 x3 hkl haI
      go_loopw [3, 47] (fun s j wr3 => ∃ m : Nat, m ≤ x.ks.length ∧ j = .int .i64 m ∧ s = .string (str (A ++ [62] ++ prM (tkL (x.ks.take m)))) ∧ Below w1.heap.size w1 wr3) (fun _ j _ => x.ks.length - (intOf j).toNat)
      case atStart => exact ⟨0, by omega, rfl, by rw [HS0.out], HBR2.out⟩
      case round =>
        obtain ⟨m3, hm3, rfl, rfl, hbr3⟩ := hrel
        have HBR3 := Lib.hid hbr3
        clear hbr3
        obtain ⟨P, hP⟩ : ∃ P, P = A ++ [62] ++ prM (tkL (x.ks.take m3)) := ⟨_, rfl⟩
        rw [← hP]
        have hPL : P.length ≤ 1 + x.n.length + (x.ats.flatMap atP).length + 1 + (prM (tkL (x.ks.take m3))).length := by rw [hP]; simp only [List.length_append, List.length_cons, List.length_nil]; have := HA3.out; omega
        have HPL := Lib.hid hPL
        have HPE := Lib.hid hP
        clear hP hPL
        by_cases hlt3 : m3 < x.ks.length
        · obtain ⟨y, hy⟩ : ∃ y, x.ks[m3]? = some y := ⟨_, List.getElem?_eq_getElem hlt3⟩
          obtain ⟨b3, e3, ya, yk, ⟨q0, q1, q2, q3⟩, hny⟩ := RdSl.elem (HN.out wr HBR3.out).rd hy
          subst e3
          obtain ⟨d1, d2, d3, d4, rfl, rfl⟩ := node_cells hny
          obtain ⟨wb, hwb⟩ : ∃ wb, wb = wr.alloc (.cells #[.string (str y.n), .slice d1 y.ats.length d2, .slice d3 y.ks.length d4, .string (str y.t)] 26) := ⟨_, rfl⟩
          have hbb : Below wr.heap.size wr wb := by rw [hwb]; exact (Below.refl _ _).alloc (Nat.le_refl _) _
          have hrow : wb.heap[wr.heap.size]? = some (.cells #[.string (str y.n), .slice d1 y.ats.length d2, .slice d3 y.ks.length d4, .string (str y.t)] 26 (0, 0)) := by rw [hwb]; exact heap_alloc_new wr _
          have htk := tkL_snoc x.ks m3 y hy
          have hle3 := prL_le x.ks (m3 + 1)
          rw [htk, prM_app3, List.length_append] at hle3
          have hbnd : P.length + (prM (tkT y)).length ≤ 100000000 := by have h1 := HPL.out; have h2 := HT3.out; omega
          have HCL := Lib.hid (HS.out y (List.mem_of_getElem? hy) (.slice d1 y.ats.length d2) (.slice d3 y.ks.length d4) wb (hny.onto hbb (Nat.le_refl _)) (by omega) (tbs_mem HTB.out.2.2.2 (List.mem_of_getElem? hy)))
          unfold nodeV at HCL
          have HBWB := Lib.hid (HBR3.out.trans (hbb.mono HBR3.out.size))
          have HWB := Lib.hid hwb
          have HROWB := Lib.hid hrow
          have HNX := Lib.hid (show A ++ [62] ++ prM (tkL (x.ks.take (m3 + 1))) = P ++ prM (tkT y) by rw [htk, prM_app3, HPE.out, ← List.append_assoc])
          have hkI3 : (m3 : Int) < (x.ks.length : Int) := by omega
          have hpI : ((str P).size : Int) + ((str (prM (tkT y))).size : Int) ≤ 100000000 := by rw [size_str, size_str]; omega
          clear hwb hbb hrow hny hy htk hle3 hbnd
          go_upto_region 15 with fail
          rw [← HWB.out]
          generalize wr.heap.size = KB at HROWB ⊢
          clear q0 q1 q2 q3
          have b0 : wb.cell? ⟨KB, 0, none⟩ = some (.string (str y.n)) := by rw [cell_of_row wb _ 0 _ _ (0, 0) HROWB.out]; rfl
          have b1 : wb.cell? ⟨KB, 1, none⟩ = some (.slice d1 y.ats.length d2) := by rw [cell_of_row wb _ 1 _ _ (0, 0) HROWB.out]; rfl
          have b2 : wb.cell? ⟨KB, 2, none⟩ = some (.slice d3 y.ks.length d4) := by rw [cell_of_row wb _ 2 _ _ (0, 0) HROWB.out]; rfl
          have b3 : wb.cell? ⟨KB, 3, none⟩ = some (.string (str y.t)) := by rw [cell_of_row wb _ 3 _ _ (0, 0) HROWB.out]; rfl
          go_wp2_with fail
          refine HCL.out.mono ?_
          rintro e w9 ⟨rfl, hb9⟩
          have HB9 := Lib.hid (HBWB.out.trans (hb9.mono HBWB.out.size))
          clear hb9 b0 b1 b2 b3 HCL
          go_wp2
          go_roundw
          case rel => exact ⟨m3 + 1, by omega, by go_num, by rw [HNX.out, app_str], HB9.out⟩
          case measure => simp [intOf]; omega
        · have hle3 : (x.ks.length : Int) ≤ m3 := by omega
          have hte : x.ks.take m3 = x.ks := List.take_of_length_le (by omega)
          have hpl := HPL.out
          rw [hte] at hpl
          have hpI : ((str P).size : Int) + ((str x.n).size : Int) + 3 ≤ 100000000 := by rw [size_str, size_str]; have := HT3.out; omega
          have HFIN := Lib.hid (show (str P ++ (⟨#[60, 47]⟩ : ByteArray) ++ str x.n) ++ (⟨#[62]⟩ : ByteArray) = str (prM (tkT x)) by
            rw [HTX.out, HPE.out, hte]
            show (str _ ++ str [60, 47] ++ str x.n) ++ str [62] = _
            rw [app_str, app_str, app_str]
            simp)
          clear hte hpl
          obtain ⟨x0, x1, x2, x3⟩ := HXC.out wr HBR3.out
          go_wp2
          go_ret
          exact ⟨ret_str HFIN.out, HUP.out _ HBR3.out⟩
theorem rprt_all : ∀ (m : Nat) (x : Tr), x.size ≤ m → RPS x
  | 0, x, h => by have := x.size_pos; omega
  | m + 1, x, h => rprt_step x fun k hk => rprt_all m k (by
    have h1 := Tr.size_mem hk
    have h2 := x.size_ks
    omega)
theorem RPrint_any (x : Tr) : RPS x := rprt_all x.size x (Nat.le_refl _)
end
/-! MayT3 -/
section
open Go.RowKit Go.WideElems Go.MapKept

set_option maxHeartbeats 1000000 in
theorem mIsText_any (l : List UInt8) (hl : l.length ≤ 1000000) (w : World) : Calls Tryz.prog 51 #[.string (str l)] w fun e w' => e = .returned (.bool (plB l)) ∧ w' = w := by
  have hsz : (str l).size = l.length := rfl
  have hll : (l.length : Int) ≤ 1000000 := by omega
  go_enter Tryz.func51, Tryz.ntmps51
  go_wp2_with fail
  go_loop [6] (fun i => ∃ k : Nat, k ≤ l.length ∧ i = .int .i64 k ∧ plB l = (l.drop k).all tx) (fun i => l.length - (intOf i).toNat)
  case atStart => exact ⟨0, Nat.zero_le _, rfl, rfl⟩
  case round =>
    obtain ⟨k, hk, rfl, hv⟩ := hrel
    by_cases hlt : k < l.length
    · obtain ⟨c, hc⟩ : ∃ c, l[k]? = some c := ⟨_, List.getElem?_eq_getElem hlt⟩
      have hik := hidx (str l) k c (by simpa [str] using hc)
      have hd : l.drop k = c :: l.drop (k + 1) := by
        obtain ⟨h1, h2⟩ := List.getElem?_eq_some_iff.1 hc
        rw [List.drop_eq_getElem_cons h1, h2]
      rw [hd, List.all_cons] at hv
      cases ht : tx c with
      | true =>
        have HIS := Lib.hid (show ∀ w, Calls Tryz.prog 75 #[.int .u8 (c.toNat : Int)] w fun e w' => e = .returned (.bool true) ∧ w' = w from fun w => by rw [← ht]; exact IsText_any (c.toNat : Int) w)
        rw [ht, Bool.true_and] at hv
        have HV := Lib.hid hv
        clear hv ht hd hc
        go_wp2_with (go_at_call 75; refine (HIS.out _).mono ?_; rintro e w1 ⟨rfl, rfl⟩)
        go_round
        case rel => exact ⟨k + 1, by omega, by go_num, HV.out⟩
        case measure => simp [intOf]; omega
      | false =>
        have HIS := Lib.hid (show ∀ w, Calls Tryz.prog 75 #[.int .u8 (c.toNat : Int)] w fun e w' => e = .returned (.bool false) ∧ w' = w from fun w => by rw [← ht]; exact IsText_any (c.toNat : Int) w)
        rw [ht, Bool.false_and] at hv
        have HV := Lib.hid hv
        clear hv ht hd hc
        go_wp2_with (go_at_call 75; refine (HIS.out _).mono ?_; rintro e w1 ⟨rfl, rfl⟩)
        go_ret
        exact ⟨ret_bool HV.out.symm, rfl⟩
    · rw [List.drop_eq_nil_of_le (by omega)] at hv
      have HV := Lib.hid hv
      have hle : (l.length : Int) ≤ k := by omega
      clear hv
      go_wp2_with fail
      go_ret
      exact ⟨ret_bool HV.out.symm, rfl⟩
set_option maxHeartbeats 1000000 in
theorem mIsName_any (n : List UInt8) (hn : n.length ≤ 1000000) (w : World) : Calls Tryz.prog 33 #[.string (str n)] w fun e w' => e = .returned (.bool (nmB n)) ∧ w' = w := by
  obtain ⟨m, hm⟩ : ∃ m, m = nameL n := ⟨_, rfl⟩
  have HC := Lib.hid (show ∀ w, Calls Tryz.prog 52 #[.string (str n)] w fun e w' => e = .returned (.int .i64 (m : Int)) ∧ w' = w from fun w => (Name_any (str n) hn w).mono (by
    rintro e w' ⟨k, rfl, hk, rfl⟩
    rw [name_one hk (nameL_is n), ← hm]
    exact ⟨rfl, rfl⟩))
  by_cases h0 : n = []
  · have hs0 : ((str n).toList == []) = true := by rw [empB_str, h0]; rfl
    have HV := Lib.hid (show nmB n = false by rw [h0]; rfl)
    clear h0 hm
    go_enter Tryz.func33, Tryz.ntmps33
    go_wp2_with fail
    go_ret
    exact ⟨ret_bool HV.out.symm, rfl⟩
  · have hs0 : ((str n).toList == []) = false := by rw [empB_str]; exact decide_eq_false h0
    have hb : nmB n = decide ((m : Int) = ((str n).size : Int)) := by
      unfold nmB
      rw [hm, size_str, decide_eq_true h0, Bool.true_and]
      simp [Int.ofNat_inj]
    rw [hb]
    have hsI : ((str n).size : Int) ≤ 1000000 := by have := hn; rw [size_str]; omega
    generalize str n = s at HC hsI hs0 ⊢
    clear hb hm h0
    cases h2 : decide ((m : Int) = (s.size : Int)) with
    | false =>
      have h3 : ¬ ((m : Int) = (s.size : Int)) := by simpa using h2
      have h4 : ((m : Int) == (s.size : Int)) = false := by simpa using h3
      go_enter Tryz.func33, Tryz.ntmps33
      go_wp2_with fail
      refine (HC.out _).mono ?_
      rintro e w1 ⟨rfl, rfl⟩
      go_wp2_with fail
      go_ret
      exact ⟨rfl, rfl⟩
    | true =>
      have h3 : (m : Int) = (s.size : Int) := by simpa using h2
      have h4 : ((m : Int) == (s.size : Int)) = true := by simpa using h3
      go_enter Tryz.func33, Tryz.ntmps33
      go_wp2_with fail
      refine (HC.out _).mono ?_
      rintro e w1 ⟨rfl, rfl⟩
      go_wp2_with fail
      go_ret
      exact ⟨rfl, rfl⟩
def mtB (x : Tr) : Bool := decide (x.ats = []) && decide (x.ks = []) && decide (x.t ≠ []) && plB x.t
theorem len0 {α : Type} (l : List α) : ((l.length : Int) == 0) = decide (l = []) := by
  cases l with
  | nil => rfl
  | cons a l => rw [decide_eq_false (by simp), beq_eq_false_iff_ne]; simp only [List.length_cons]; omega
set_option maxRecDepth 100000 in
set_option maxHeartbeats 2000000 in
theorem mayText_any (x : Tr) (va vk : Value) (w : World) (hx : NdV w (allF w) x va vk) (ht : x.t.length ≤ 1000000) :
    Calls Tryz.prog 32 #[nodeV x va vk] w fun e w' => e = .returned (.bool (mtB x)) ∧ Below w.heap.size w w' := by
  obtain ⟨c1, c2, c3, c4, rfl, rfl⟩ := node_cells hx
  unfold nodeV
  obtain ⟨w1, hw1⟩ : ∃ w1, w1 = w.alloc (.cells #[.string (str x.n), .slice c1 x.ats.length c2, .slice c3 x.ks.length c4, .string (str x.t)] 26) := ⟨_, rfl⟩
  have hb1 : Below w.heap.size w w1 := by rw [hw1]; exact (Below.refl _ _).alloc (Nat.le_refl _) _
  have hX : w1.heap[w.heap.size]? = some (.cells #[.string (str x.n), .slice c1 x.ats.length c2, .slice c3 x.ks.length c4, .string (str x.t)] 26 (0, 0)) := by rw [hw1]; exact heap_alloc_new w _
  have x0 : w1.cell? ⟨w.heap.size, 0, none⟩ = some (.string (str x.n)) := by rw [cell_of_row w1 _ 0 _ _ (0, 0) hX]; rfl
  have x1 : w1.cell? ⟨w.heap.size, 1, none⟩ = some (.slice c1 x.ats.length c2) := by rw [cell_of_row w1 _ 1 _ _ (0, 0) hX]; rfl
  have x2 : w1.cell? ⟨w.heap.size, 2, none⟩ = some (.slice c3 x.ks.length c4) := by rw [cell_of_row w1 _ 2 _ _ (0, 0) hX]; rfl
  have x3 : w1.cell? ⟨w.heap.size, 3, none⟩ = some (.string (str x.t)) := by rw [cell_of_row w1 _ 3 _ _ (0, 0) hX]; rfl
  have HB1 := Lib.hid hb1
  have HW1 := Lib.hid hw1
  have HIT := Lib.hid (fun w => mIsText_any x.t ht w)
  obtain ⟨R, hR⟩ : ∃ R, R = mtB x := ⟨_, rfl⟩
  rw [← hR]
  unfold mtB at hR
  have q1 := len0 x.ats
  have q2 := len0 x.ks
  have q3 := empB_str x.t
  generalize hA : decide (x.ats = []) = A at q1 hR
  generalize hK : decide (x.ks = []) = K at q2 hR
  rw [show decide (x.t ≠ []) = !decide (x.t = []) by simp] at hR
  generalize hT : decide (x.t = []) = T at q3 hR
  generalize plB x.t = B at HIT hR
  clear hA hK hT hb1 hw1 hX ht hx
  have HR := Lib.hid hR
  clear hR
  have q4 : ((str x.t).toList != []) = !T := by unfold bne; rw [q3]
  go_enter Tryz.func32, Tryz.ntmps32
  go_upto_region 1 with fail
  rw [← HW1.out]
  cases A
  · go_wp2_with fail
    go_ret
    exact ⟨ret_bool (by rw [HR.out]; rfl), HB1.out⟩
  cases K
  · go_wp2_with fail
    go_ret
    exact ⟨ret_bool (by rw [HR.out]; rfl), HB1.out⟩
  cases T
  case true =>
    go_wp2_with fail
    go_ret
    exact ⟨ret_bool (by rw [HR.out]; rfl), HB1.out⟩
  case false =>
    go_wp2_with (go_at_call 51; refine (HIT.out _).mono ?_; rintro e w2 ⟨rfl, hw2⟩)
    obtain rfl : w1 = w2 := hw2.symm
    clear x0 x1 x2 x3
    go_wp2
    go_ret
    exact ⟨ret_bool (by rw [HR.out]; rfl), HB1.out⟩
/-! a set of texts -/
theorem sKeyed3 : Maps.Keyed Tryz.prog 9 := Maps.string_keyed Tryz.underlying9
theorem zero_unit3 (w : World) : (zeroValue 94).run Tryz.prog w = .ok (.agg #[]) w := by kernel_rfl
theorem run_makeMap3 (n : Int) (w : World) : (Instr.makeMap 93 (some (.int .i64 n))).run Tryz.prog w = .ok (.map (some w.heap.size)) (w.alloc (.map #[] 0)) := by
  unfold Instr.makeMap
  simp only [Sem.run_bind, run_underlying Tryz.underlying93, Result.andThen_ok]
  rfl
/-- block b is a set of at most n texts, those of l -/
def TxSet (w : World) (b n : Nat) (l : List (List UInt8)) : Prop :=
  ∃ D : DataW Unit, w.ownsMap Tryz.prog 9 unitElem b n D ∧ ∀ k : List UInt8, k.length ≤ 1000000 → Maps.has D (.string k) = l.any (fun q => k == q)
section
variable {w w' : World} {b n : Nat} {l : List (List UInt8)} {k : List UInt8}
theorem TxSet.made (w : World) : TxSet (w.alloc (.map #[] 0)) w.heap.size 0 [] := ⟨_, World.ownsMap_made _ _ _ _, fun k _ => rfl⟩
theorem TxSet.below (h : TxSet w b n l) (hb : Below w.heap.size w w') : TxSet w' b n l := by
  obtain ⟨D, h1, h2⟩ := h
  exact ⟨D, h1.kept (⟨hb.os, hb.tape, hb.output, hb.size, fun k hk _ => hb.block k hk⟩ : w.grownBy w' none) (by simp), h2⟩
theorem TxSet.lt (h : TxSet w b n l) : b < w.heap.size := by
  obtain ⟨D, h1, h2⟩ := h
  exact h1.lt
theorem TxSet.look (h : TxSet w b n l) (hk : k.length ≤ 1000000) : (Instr.lookup 93 (.map (some b)) (.string (str k)) true).run Tryz.prog w = .ok (.tuple #[.agg #[], .bool (l.any fun q => k == q)]) w := by
  obtain ⟨D, h1, h2⟩ := h
  obtain ⟨v, ps, hr, hv⟩ := h1.look_ok sKeyed3 Tryz.underlying93 (zero_unit3 _) unitElem_mk (Go.WideMaps.keyOf_string_mk Tryz.underlying9 (s := str k) (by rw [size_str]; unfold maxLen; omega))
  rw [show (Lit.string (str k).data.toList) = .string k by rw [toList_str], h2 k hk] at hr
  obtain ⟨rfl, -⟩ := unitElem_inv hv
  exact hr
theorem TxSet.update (h : TxSet w b n l) (hk : k.length ≤ 1000000) (hn : n ≤ 1000000) :
    ∃ w', (Instr.mapUpdate 93 (.map (some b)) (.string (str k)) (.agg #[])).run Tryz.prog w = .ok () w' ∧ TxSet w' b (n + 1) (l ++ [k]) ∧ w.grownBy w' (some b) := by
  obtain ⟨D, h2, h3⟩ := h
  have hkey := Go.WideMaps.keyOf_string_mk (P := Tryz.prog) (s := str k) Tryz.underlying9 (by rw [size_str]; unfold maxLen; omega)
  rw [show (Lit.string (str k).data.toList) = .string k by rw [toList_str]] at hkey
  obtain ⟨w', a1, a2, a3⟩ := h2.update sKeyed3 Tryz.underlying93 (by unfold maxLen; omega) hkey unitElem_mk
  refine ⟨w', a1, ⟨_, a2, fun q hq => ?_⟩, a3⟩
  have hkl : WideAt.IsKeyLit (.string k) := sKeyed3.key hkey
  rw [List.any_append]
  by_cases e : q = k
  · subst e
    rw [Maps.has_put_same h2.isMap hkl]; simp
  · have hne : (Lit.string q) ≠ .string k := fun h => e (by cases h; rfl)
    rw [Maps.has_put_other hne, h3 q hq]
    simp [e]
end
set_option maxRecDepth 100000 in
set_option maxHeartbeats 4000000 in
theorem mayAttrs_any (va : Value) (l : List At2) (w : World) (hr : RdAs w va l) (hl : l.length ≤ 100000) (hb : ∀ p ∈ l, p.1.length ≤ 100000 ∧ p.2.length ≤ 100000) :
    Calls Tryz.prog 34 #[va] w fun e w' => e = .returned (.bool (atsB [] l)) ∧ Below w.heap.size w w' := by
  obtain ⟨a, c, rfl⟩ := RdSl.shape hr
  have hlI : (l.length : Int) ≤ 100000 := by omega
  have hmm := fun (n : Int) (w : World) => run_makeMap3 n w
  have HR := Lib.hid hr
  have HBD := Lib.hid hb
  clear hr hb
  go_enter Tryz.func34, Tryz.ntmps34
  go_upto_region 2 with fail
  have hs0 := TxSet.made w
  have hbm : Below w.heap.size w (w.alloc (.map #[] 0)) := (Below.refl _ _).alloc (Nat.le_refl _) _
  generalize w.alloc (.map #[] 0) = w1 at hs0 hbm ⊢
  generalize hMB : w.heap.size = MB at hs0 ⊢
  have HMB := Lib.hid hMB
  have HS0 := Lib.hid hs0
  have HBM := Lib.hid hbm
  clear hMB hs0 hbm hmm
  go_wp2_with fail
  go_loopw [13] (fun i wr => ∃ k : Nat, k ≤ l.length ∧ i = .int .i64 k ∧ TxSet wr MB k ((l.take k).map (·.1)) ∧ Below w.heap.size w wr ∧ atsB [] l = atsB (l.take k) (l.drop k)) (fun i _ => l.length - (intOf i).toNat)
  case atStart => exact ⟨0, by omega, rfl, HS0.out, HBM.out, rfl⟩
  case round =>
    obtain ⟨k, hk, rfl, hts, hbr, hv⟩ := hrel
    have HTS := Lib.hid hts
    have HBR := Lib.hid hbr
    clear hts hbr
    by_cases hlt : k < l.length
    · obtain ⟨p, hp⟩ : ∃ p, l[k]? = some p := ⟨_, List.getElem?_eq_getElem hlt⟩
      rw [atsB_at hp] at hv
      obtain ⟨hp1, hp2⟩ := HBD.out p (List.mem_of_getElem? hp)
      obtain ⟨b, e1, p0, p1⟩ := RdSl.elem (HR.out.below HBR.out (Nat.le_refl _)) hp
      subst e1
      have HTK := Lib.hid (show (l.take (k + 1)).map (·.1) = (l.take k).map (·.1) ++ [p.1] by rw [take_snoc _ k p hp, List.map_append]; rfl)
      have hany : ((l.take k).any fun q => p.1 == q.1) = ((l.take k).map (·.1)).any fun q => p.1 == q := by rw [List.any_map]; rfl
      rw [hany] at hv
      generalize (l.take k).map (·.1) = S at HTS HTK hv
      obtain ⟨wb, hwb⟩ : ∃ wb, wb = wr.alloc (.cells #[.string (str p.1), .string (str p.2)] 68) := ⟨_, rfl⟩
      have hbb : Below wr.heap.size wr wb := by rw [hwb]; exact (Below.refl _ _).alloc (Nat.le_refl _) _
      have hrow : wb.heap[wr.heap.size]? = some (.cells #[.string (str p.1), .string (str p.2)] 68 (0, 0)) := by rw [hwb]; exact heap_alloc_new wr _
      have HBB := Lib.hid (HBR.out.trans (hbb.mono HBR.out.size))
      have HTB := Lib.hid (HTS.out.below hbb)
      have HIN := Lib.hid (fun w => mIsName_any p.1 (by omega) w)
      have HIT := Lib.hid (fun w => mIsText_any p.2 (by omega) w)
      have HWB := Lib.hid hwb
      have HROW := Lib.hid hrow
      have hkI : (k : Int) < (l.length : Int) := by omega
      have HP1 := Lib.hid (show p.1.length ≤ 1000000 by omega)
      clear hwb hbb hrow hp hany hp1 hp2
      go_upto_region 5 with fail
      rw [← HWB.out]
      generalize wr.heap.size = KB at HROW ⊢
      clear p0 p1
      have b0 : wb.cell? ⟨KB, 0, none⟩ = some (.string (str p.1)) := by rw [cell_of_row wb _ 0 _ _ (0, 0) HROW.out]; rfl
      have b1 : wb.cell? ⟨KB, 1, none⟩ = some (.string (str p.2)) := by rw [cell_of_row wb _ 1 _ _ (0, 0) HROW.out]; rfl
      have hlook := HTB.out.look HP1.out
      obtain ⟨wc, hwc⟩ : ∃ wc, wc = wb.alloc (.cells #[] 94) := ⟨_, rfl⟩
      have hbc : Below wb.heap.size wb wc := by rw [hwc]; exact (Below.refl _ _).alloc (Nat.le_refl _) _
      have HBC := Lib.hid (HBB.out.trans (hbc.mono HBB.out.size))
      have HTC := Lib.hid (HTB.out.below hbc)
      have HWC := Lib.hid hwc
      have HRC := Lib.hid ((hbc.block KB (Array.getElem?_eq_some_iff.1 HROW.out).1).trans HROW.out)
      clear hwc hbc
      generalize hA : (S.any fun q => p.1 == q) = A at hlook hv
      generalize nmB p.1 = NB at HIN hv
      generalize plB p.2 = PB at HIT hv
      clear hA
      have HV := Lib.hid hv
      clear hv
      go_upto_region 6 with fail
      rw [← HWC.out]
      clear hlook b0 b1
      have b0 : wc.cell? ⟨KB, 0, none⟩ = some (.string (str p.1)) := by rw [cell_of_row wc _ 0 _ _ (0, 0) HRC.out]; rfl
      have b1 : wc.cell? ⟨KB, 1, none⟩ = some (.string (str p.2)) := by rw [cell_of_row wc _ 1 _ _ (0, 0) HRC.out]; rfl
      cases A
      case true =>
        go_wp2_with fail
        go_ret
        exact ⟨ret_bool (by rw [HV.out]; simp), HBC.out⟩
      cases NB
      case false =>
        go_wp2_with (go_at_call 33; refine (HIN.out _).mono ?_; rintro e w3 ⟨rfl, hw3⟩; obtain rfl : wc = w3 := hw3.symm)
        go_ret
        exact ⟨ret_bool (by rw [HV.out]; simp), HBC.out⟩
      cases PB
      case false =>
        go_wp2_with (first
          | (go_at_call 33; refine (HIN.out _).mono ?_; rintro e w3 ⟨rfl, hw3⟩; obtain rfl : wc = w3 := hw3.symm)
          | (go_at_call 51; refine (HIT.out _).mono ?_; rintro e w4 ⟨rfl, hw4⟩; obtain rfl : wc = w4 := hw4.symm))
        go_ret
        exact ⟨ret_bool (by rw [HV.out]; simp), HBC.out⟩
      obtain ⟨w5, hrun, hts5, hg5⟩ := HTC.out.update (k := p.1) HP1.out (by omega)
      have HTS5 := Lib.hid hts5
      have HB5 := Lib.hid (HBC.out.grown hg5 HBC.out.size (fun q e => by cases e; have := HMB.out; omega))
      have HV2 := Lib.hid (show atsB [] l = atsB (l.take (k + 1)) (l.drop (k + 1)) by rw [HV.out]; rfl)
      clear hts5 hg5
      go_wp2_with (first
        | (go_at_call 33; refine (HIN.out _).mono ?_; rintro e w3 ⟨rfl, hw3⟩; obtain rfl : wc = w3 := hw3.symm)
        | (go_at_call 51; refine (HIT.out _).mono ?_; rintro e w4 ⟨rfl, hw4⟩; obtain rfl : wc = w4 := hw4.symm))
      go_roundw
      case rel => exact ⟨k + 1, by omega, by go_num, by rw [HTK.out]; exact HTS5.out, HB5.out, HV2.out⟩
      case measure => simp [intOf]; omega
    · rw [List.drop_eq_nil_of_le (by omega)] at hv
      have HV := Lib.hid hv
      have hle : (l.length : Int) ≤ k := by omega
      clear hv
      go_wp2_with fail
      go_ret
      exact ⟨ret_bool HV.out.symm, HBR.out⟩
end
/-! MayC3 -/
section
open Go.RowKit

mutual
/-- attributes are not too many -/
def Tr.tc : Tr → Prop
  | .mk n ats ks t => ats.length ≤ 100000 ∧ Tr.tcs ks
def Tr.tcs : List Tr → Prop
  | [] => True
  | k :: ks => k.tc ∧ Tr.tcs ks
end
theorem tcs_mem : ∀ {l : List Tr} {k : Tr}, Tr.tcs l → k ∈ l → k.tc
  | [], k, _, h => by simp at h
  | x :: l, k, hs, h => by
    rcases List.mem_cons.1 h with rfl | h
    · exact hs.1
    · exact tcs_mem hs.2 h
mutual
theorem sm_tc : ∀ x : Tr, x.sm → x.tc
  | .mk n ats ks t, h => ⟨by have := h.2.1; omega, sms_tcs ks h.2.2.2.2.2⟩
theorem sms_tcs : ∀ l : List Tr, Tr.sms l → Tr.tcs l
  | [], _ => trivial
  | k :: l, h => ⟨sm_tc k h.1, sms_tcs l h.2⟩
end
/-- may this stand at depth d? -/
def kB (d : Nat) (x : Tr) : Bool := if x.n = [] then decide (1 < d) && mtB x else x.rightB && decide (d + x.dep ≤ 65)
def mayR (d : Nat) (v : Int) (x : Tr) : Bool := decide ((x.size : Int) ≤ v) && kB d x
/-- what is left of the kids -/
structure KI (x : Tr) (d : Nat) (v : Int) (k : Nat) : Prop where
  sz : (Tr.sizes (x.ks.take k) : Int) ≤ v - 1
  ks : Tr.ksB false x.ks = Tr.ksB (preT x.ks k) (x.ks.drop k)
  dp : d + 1 + Tr.deps (x.ks.take k) ≤ 65
theorem KI.start {x : Tr} {d : Nat} {v : Int} (hv : 1 ≤ v) (hd : d ≤ 64) : KI x d v 0 := ⟨by simp [Tr.sizes]; omega, rfl, by simp [Tr.deps]; omega⟩
theorem mt_eq (y : Tr) (p : Bool) : (decide (y.ats = []) && decide (y.ks = []) && decide (y.t ≠ []) && plB y.t && !p) = (mtB y && !p) := rfl
theorem kB_el {x : Tr} {d : Nat} (hn : x.n ≠ []) : kB d x = (x.rightB && decide (d + x.dep ≤ 65)) := if_neg hn
theorem right_ks {x : Tr} (h : Tr.ksB false x.ks = false) : x.rightB = false := by
  obtain ⟨n, ats, ks, t⟩ := x
  rw [Tr.rightB]
  rw [show Tr.ksB false ks = false from h, Bool.and_false]
theorem KI.twice {x y : Tr} {d k : Nat} {v : Int} (h : KI x d v k) (hn : x.n ≠ []) (hy : x.ks[k]? = some y) (hyn : y.n = []) (hp : preT x.ks k = true) : mayR d v x = false := by
  have h1 := h.ks
  rw [ksB_at hy, if_pos hyn, hp] at h1
  simp only [Bool.not_true, Bool.and_false, Bool.false_and] at h1
  unfold mayR
  rw [kB_el hn, right_ks h1, Bool.false_and, Bool.and_false]
theorem KI.no {x y : Tr} {d k : Nat} {v : Int} (h : KI x d v k) (hn : x.n ≠ []) (hd : 1 ≤ d) (hy : x.ks[k]? = some y) (hb : mayR (d + 1) (v - 1 - (Tr.sizes (x.ks.take k) : Int)) y = false) : mayR d v x = false := by
  have h1 := h.ks
  rw [ksB_at hy] at h1
  unfold mayR at hb ⊢
  have hsz : x.size = 1 + Tr.sizes x.ks := x.size_ks
  have hle := sizes_take x.ks (k + 1)
  rw [sizes_snoc x.ks k y hy] at hle
  rw [Bool.and_eq_false_iff] at hb
  rcases hb with hb | hb
  · have := of_decide_eq_false hb
    rw [decide_eq_false (by omega), Bool.false_and]
  · unfold kB at hb
    rw [kB_el hn]
    by_cases hyn : y.n = []
    · rw [if_pos hyn, decide_eq_true (by omega), Bool.true_and] at hb
      rw [if_pos hyn, mt_eq, hb] at h1
      simp only [Bool.false_and] at h1
      rw [right_ks h1, Bool.false_and, Bool.and_false]
    · rw [if_neg hyn, Bool.and_eq_false_iff] at hb
      rw [if_neg hyn] at h1
      rcases hb with hb | hb
      · rw [hb, Bool.false_and] at h1
        rw [right_ks h1, Bool.false_and, Bool.and_false]
      · have hdp := of_decide_eq_false hb
        have hdx : x.dep = Tr.deps x.ks + 1 := x.dep_ks
        have hdl := deps_app (x.ks.take (k + 1)) (x.ks.drop (k + 1))
        rw [List.take_append_drop, deps_snoc x.ks k y hy, if_neg hyn] at hdl
        rw [decide_eq_false (show ¬ d + x.dep ≤ 65 by omega), Bool.and_false, Bool.and_false]
theorem KI.yes {x y : Tr} {d k : Nat} {v : Int} (h : KI x d v k) (hd : 1 ≤ d) (hy : x.ks[k]? = some y) (hp : y.n = [] → preT x.ks k = false) (hb : mayR (d + 1) (v - 1 - (Tr.sizes (x.ks.take k) : Int)) y = true) :
    KI x d v (k + 1) ∧ v - 1 - (Tr.sizes (x.ks.take k) : Int) - (y.size : Int) = v - 1 - (Tr.sizes (x.ks.take (k + 1)) : Int) := by
  unfold mayR at hb
  rw [Bool.and_eq_true] at hb
  obtain ⟨hb1, hb2⟩ := hb
  have hs := of_decide_eq_true hb1
  have hsn := sizes_snoc x.ks k y hy
  have h1 := h.ks
  rw [ksB_at hy] at h1
  have h3 := h.dp
  have hdn := deps_snoc x.ks k y hy
  unfold kB at hb2
  refine ⟨⟨by rw [hsn]; omega, ?_, ?_⟩, by rw [hsn]; omega⟩
  · by_cases hyn : y.n = []
    · rw [if_pos hyn, Bool.and_eq_true] at hb2
      rw [if_pos hyn, mt_eq, hb2.2, hp hyn] at h1
      simpa using h1
    · rw [if_neg hyn, Bool.and_eq_true] at hb2
      rw [if_neg hyn, hb2.1, Bool.true_and] at h1
      exact h1
  · rw [hdn]
    by_cases hyn : y.n = []
    · rw [if_pos hyn]; exact h3
    · rw [if_neg hyn, Bool.and_eq_true] at hb2
      have := of_decide_eq_true hb2.2
      rw [if_neg hyn]; omega
theorem KI.done {x : Tr} {d k : Nat} {v : Int} (h : KI x d v k) (hn : x.n ≠ []) (hk : x.ks.length ≤ k) (h1 : nmB x.n = true) (h2 : x.t = []) (h3 : atsB [] x.ats = true) : mayR d v x = true ∧ v - 1 - (Tr.sizes (x.ks.take k) : Int) = v - (x.size : Int) := by
  have hsz : x.size = 1 + Tr.sizes x.ks := x.size_ks
  have hdx : x.dep = Tr.deps x.ks + 1 := x.dep_ks
  have e1 := h.sz
  have e2 := h.ks
  have e3 := h.dp
  rw [List.take_of_length_le hk] at e1 e3
  rw [List.drop_eq_nil_of_le hk] at e2
  have hr : x.rightB = true := by
    obtain ⟨n, ats, ks, t⟩ := x
    rw [Tr.rightB]
    rw [show nmB n = true from h1, show atsB [] ats = true from h3, show Tr.ksB false ks = true from e2]
    rw [show decide (t = []) = true from decide_eq_true h2]
    rfl
  refine ⟨?_, by rw [List.take_of_length_le hk]; omega⟩
  unfold mayR
  rw [kB_el hn, hr, decide_eq_true (by omega), decide_eq_true (show d + x.dep ≤ 65 by omega)]
  rfl
theorem may_low {x : Tr} {d : Nat} {v : Int} (h : v < 1) : mayR d v x = false := by
  unfold mayR
  rw [decide_eq_false (by have := x.size_pos; omega), Bool.false_and]
theorem may_parts {x : Tr} {d : Nat} {v : Int} (hn : x.n ≠ []) (h : 64 < d ∨ nmB x.n = false ∨ x.t ≠ [] ∨ atsB [] x.ats = false) : mayR d v x = false := by
  unfold mayR
  rw [kB_el hn]
  have hdx : x.dep = Tr.deps x.ks + 1 := x.dep_ks
  have hr : nmB x.n = false ∨ x.t ≠ [] ∨ atsB [] x.ats = false → x.rightB = false := fun h => by
    obtain ⟨n, ats, ks, t⟩ := x
    rw [Tr.rightB]
    rcases h with h | h | h
    · rw [show nmB n = false from h]; simp
    · rw [show decide (t = []) = false from decide_eq_false h]; simp
    · rw [show atsB [] ats = false from h]; simp
  rcases h with h | h
  · rw [decide_eq_false (show ¬ d + x.dep ≤ 65 by omega), Bool.and_false, Bool.and_false]
  · rw [hr h, Bool.false_and, Bool.and_false]
theorem may_text {x : Tr} {d : Nat} {v : Int} (hn : x.n = []) (hv : 1 ≤ v) : (decide (1 < d) && mtB x) = mayR d v x ∧ (mayR d v x = true → v - 1 = v - (x.size : Int)) := by
  have hs : mtB x = true → x.size = 1 := fun h => by
    unfold mtB at h
    simp only [Bool.and_eq_true, decide_eq_true_eq] at h
    rw [x.size_ks, h.1.1.2]; rfl
  unfold mayR kB
  rw [if_pos hn]
  cases hm : mtB x with
  | false => simp
  | true =>
    have h1 : decide ((x.size : Int) ≤ v) = true := decide_eq_true (by rw [hs hm]; omega)
    rw [h1, hs hm]
    simp
/-! worlds -/
section
variable {w w' w2 : World} {L : Nat}
theorem grL_below (hb : Below w.heap.size w w') : w.grownBy w' (some L) := ⟨hb.os, hb.tape, hb.output, hb.size, fun k hk _ => hb.block k hk⟩
theorem grL_trans (h : w.grownBy w' (some L)) (h2 : w'.grownBy w2 (some L)) : w.grownBy w2 (some L) :=
  ⟨h2.os.trans h.os, h2.tape.trans h.tape, h2.output.trans h.output, Nat.le_trans h.size h2.size, fun k hk hne => (h2.block k (Nat.lt_of_lt_of_le hk h.size) hne).trans (h.block k hk hne)⟩
theorem grL_set (v : Value) : w.grownBy (w.setCell ⟨L, 0, none⟩ v) (some L) := ⟨rfl, rfl, rfl, by simp, fun k _ hk => heap_setCell_other w ⟨L, 0, none⟩ k v (fun e => hk (by simp [e]))⟩
theorem grL_low {w0 : World} (h0 : Below w0.heap.size w0 w) (hL : w0.heap.size ≤ L) (h : w.grownBy w' (some L)) : Below w0.heap.size w0 w' := h0.grown h h0.size (fun q e => by cases e; exact hL)
end
def MayQ (d L : Nat) (v : Int) (x : Tr) (w : World) (e : Ending) (w' : World) : Prop :=
  ∃ v' : Int, e = .returned (.bool (mayR d v x)) ∧ w.grownBy w' (some L) ∧ w'.heap[L]? = some (.cells #[.int .i64 v'] 3 (0, 0)) ∧ (mayR d v x = true → v' = v - (x.size : Int))
def MayC (x : Tr) : Prop :=
  ∀ (w0 : World) (L V d : Nat) (v : Int) (va vk : Value) (w : World), NdV w0 (allF w0) x va vk → Below w0.heap.size w0 w → w0.heap.size ≤ L → L < V → w.heap[L]? = some (.cells #[.int .i64 v] 3 (0, 0)) →
    w.cell? ⟨V, 0, none⟩ = some (.func (.func 31) #[] #[.pointer (some ⟨L, 0, none⟩), .pointer (some ⟨V, 0, none⟩)]) → 0 ≤ v → v ≤ 4096 → 1 ≤ d → d ≤ 65 → x.tb → x.tc →
    Calls Tryz.prog 31 #[nodeV x va vk, .int .i64 (d : Int), .pointer (some ⟨L, 0, none⟩), .pointer (some ⟨V, 0, none⟩)] w (MayQ d L v x w)
set_option maxRecDepth 100000 in
set_option maxHeartbeats 4000000 in
theorem mayc_step (x : Tr) (hS : ∀ k ∈ x.ks, MayC k) : MayC x := by
  intro w0 L V d v va vk w hx hb0 hL0 hLV hL hV hv0 hv1 hd1 hd2 htb htc
  obtain ⟨c1, c2, c3, c4, rfl, rfl⟩ := node_cells hx
  unfold nodeV
  obtain ⟨w1, hw1⟩ : ∃ w1, w1 = w.alloc (.cells #[.string (str x.n), .slice c1 x.ats.length c2, .slice c3 x.ks.length c4, .string (str x.t)] 26) := ⟨_, rfl⟩
  have hb1 : Below w.heap.size w w1 := by rw [hw1]; exact (Below.refl _ _).alloc (Nat.le_refl _) _
  have hX1 : w1.heap[w.heap.size]? = some (.cells #[.string (str x.n), .slice c1 x.ats.length c2, .slice c3 x.ks.length c4, .string (str x.t)] 26 (0, 0)) := by rw [hw1]; exact heap_alloc_new w _
  have hVs : V < w.heap.size := World.block_lt_of_cell? w _ hV
  have hL1 : w1.heap[L]? = some (.cells #[.int .i64 v] 3 (0, 0)) := (hb1.block L (by omega)).trans hL
  obtain ⟨w2, hw2⟩ : ∃ w2, w2 = w1.setCell ⟨L, 0, none⟩ (.int .i64 (v - 1)) := ⟨_, rfl⟩
  have hG2 : w.grownBy w2 (some L) := by rw [hw2]; exact grL_trans (grL_below hb1) (grL_set _)
  have hL2 : w2.heap[L]? = some (.cells #[.int .i64 (v - 1)] 3 (0, 0)) := by rw [hw2]; exact heap_setCell_same w1 L 0 _ _ (.int .i64 (v - 1)) hL1
  have hX2 : w2.heap[w.heap.size]? = some (.cells #[.string (str x.n), .slice c1 x.ats.length c2, .slice c3 x.ks.length c4, .string (str x.t)] 26 (0, 0)) := by
    rw [hw2, heap_setCell_other w1 ⟨L, 0, none⟩ w.heap.size _ (fun e => by simp only at e; omega)]; exact hX1
  have hV2 : w2.cell? ⟨V, 0, none⟩ = some (.func (.func 31) #[] #[.pointer (some ⟨L, 0, none⟩), .pointer (some ⟨V, 0, none⟩)]) := (World.cell?_of_block (a := ⟨V, 0, none⟩) (hG2.block V hVs (fun e => by cases e; omega))).trans hV
  have l1 : w1.cell? ⟨L, 0, none⟩ = some (.int .i64 v) := by rw [cell_of_row w1 _ 0 _ _ (0, 0) hL1]; rfl
  have f1 : w1.frozen? ⟨L, 0, none⟩ = false := frozen_of_row w1 _ 0 _ _ hL1
  have hwr : IntKind.i64.wrap (v - 1) = v - 1 := by rw [IntWalk.i64_in _ (by omega)]
  have htt : x.n.length ≤ 100000 ∧ x.t.length ≤ 100000 ∧ (∀ p ∈ x.ats, p.1.length ≤ 100000 ∧ p.2.length ≤ 100000) ∧ Tr.tbs x.ks := by cases x; exact htb
  have htc2 : x.ats.length ≤ 100000 ∧ Tr.tcs x.ks := by cases x; exact htc
  have HG2 := Lib.hid hG2
  have HL2 := Lib.hid hL2
  have HX2 := Lib.hid hX2
  have HV2 := Lib.hid hV2
  have HW1 := Lib.hid hw1
  have HW2 := Lib.hid hw2
  have HTB := Lib.hid htt
  have HTC := Lib.hid htc2
  have HS := Lib.hid hS
  have HX := Lib.hid hx
  have HB0 := Lib.hid hb0
  have HL0 := Lib.hid hL0
  have HLV := Lib.hid hLV
  have HXL := Lib.hid (show w.heap.size ≠ L ∧ V < w.heap.size by omega)
  have HB02 := Lib.hid (grL_low hb0 hL0 hG2)
  have HXC := Lib.hid (show ∀ w3, w2.grownBy w3 (some L) → Sr3 w.heap.size x c1 c2 c3 c4 w3 from fun w3 hg => by
    have h2 := (hg.block w.heap.size (Array.getElem?_eq_some_iff.1 hX2).1 (fun e => by cases e; omega)).trans hX2
    exact ⟨by rw [cell_of_row w3 _ 0 _ _ (0, 0) h2]; rfl, by rw [cell_of_row w3 _ 1 _ _ (0, 0) h2]; rfl, by rw [cell_of_row w3 _ 2 _ _ (0, 0) h2]; rfl, by rw [cell_of_row w3 _ 3 _ _ (0, 0) h2]; rfl⟩)
  have HVC := Lib.hid (show ∀ w3, w2.grownBy w3 (some L) → w3.cell? ⟨V, 0, none⟩ = some (.func (.func 31) #[] #[.pointer (some ⟨L, 0, none⟩), .pointer (some ⟨V, 0, none⟩)]) from fun w3 hg => (World.cell?_of_block (a := ⟨V, 0, none⟩) (hg.block V (World.block_lt_of_cell? w2 _ hV2) (fun e => by cases e; omega))).trans hV2)
  clear hx hb0 hL0 hLV hL hV htb htc hb1 hX1 hVs hL1 hw1 hw2 hG2 hL2 hX2 hV2 htt htc2 hS
  go_enter Tryz.func31, Tryz.ntmps31
  go_upto_region 1 with fail
  rw [← HW1.out]
  go_upto_region 2 with fail
  rw [← HW2.out]
  clear l1 f1 hwr
  have l2 : w2.cell? ⟨L, 0, none⟩ = some (.int .i64 (v - 1)) := by rw [cell_of_row w2 _ 0 _ _ (0, 0) HL2.out]; rfl
  by_cases hv : v < 1
  · have hlt : v - 1 < 0 := by omega
    have HM := Lib.hid (may_low (x := x) (d := d) hv)
    clear hv
    go_wp2_with fail
    go_ret
    exact ⟨v - 1, ret_bool HM.out.symm, HG2.out, HL2.out, fun h => by rw [HM.out] at h; cases h⟩
  have hge : ¬ (v - 1 < 0) := by omega
  have hv2 : 1 ≤ v := by omega
  have HVV := Lib.hid hv2
  obtain ⟨x0, x1, x2, x3⟩ := HXC.out w2 (grL_below (Below.refl _ _))
  by_cases hn : x.n = []
  · have hs0 : ((str x.n).toList == []) = true := by rw [empB_str, hn]; rfl
    obtain ⟨g1, g2⟩ := may_text (d := d) hn hv2
    have HM1 := Lib.hid g1
    have HM2 := Lib.hid g2
    have HMT := Lib.hid (mayText_any x (.slice c1 x.ats.length c2) (.slice c3 x.ks.length c4) w2 (HX.out.onto HB02.out (Nat.le_refl _)) (by have := HTB.out.2.1; omega))
    unfold nodeV at HMT
    clear g1 g2 hn hv hv2
    by_cases h1d : 1 < d
    · have h1I : 1 < (d : Int) := by omega
      have HM3 := Lib.hid (show mtB x = mayR d v x by rw [← HM1.out, decide_eq_true h1d, Bool.true_and])
      clear h1d
      go_wp2_with (go_at_call 32; refine HMT.out.mono ?_; rintro e w3 ⟨rfl, hb3⟩)
      go_ret
      exact ⟨v - 1, ret_bool HM3.out, grL_trans HG2.out (grL_below hb3), (hb3.block L (Array.getElem?_eq_some_iff.1 HL2.out).1).trans HL2.out, HM2.out⟩
    · have h1I : ¬ 1 < (d : Int) := by omega
      have HM3 := Lib.hid (show mayR d v x = false by rw [← HM1.out, decide_eq_false h1d, Bool.false_and])
      clear h1d
      go_wp2_with fail
      go_ret
      exact ⟨v - 1, ret_bool HM3.out.symm, HG2.out, HL2.out, HM2.out⟩
  have hs0 : ((str x.n).toList == []) = false := by rw [empB_str]; exact decide_eq_false hn
  have HNN := Lib.hid hn
  clear hn hv hv2
  by_cases hd64 : 64 < d
  · have hdI : 64 < (d : Int) := by omega
    have HM := Lib.hid (may_parts (d := d) (v := v) HNN.out (.inl hd64))
    clear hd64
    go_wp2_with fail
    go_ret
    exact ⟨v - 1, ret_bool HM.out.symm, HG2.out, HL2.out, fun h => by rw [HM.out] at h; cases h⟩
  have hdI : ¬ 64 < (d : Int) := by omega
  have HD64 := Lib.hid hd64
  clear hd64
  have HNM := Lib.hid (fun w => mIsName_any x.n (by have := HTB.out.1; omega) w)
  obtain ⟨NB, hNB⟩ : ∃ b, b = nmB x.n := ⟨_, rfl⟩
  rw [← hNB] at HNM
  have HNB := Lib.hid hNB
  clear hNB
  cases NB with
  | false =>
    have HM := Lib.hid (may_parts (d := d) (v := v) HNN.out (.inr (.inl HNB.out.symm)))
    go_wp2_with (go_at_call 33; refine (HNM.out _).mono ?_; rintro e w3 ⟨rfl, hw3⟩; obtain rfl : w2 = w3 := hw3.symm)
    go_ret
    exact ⟨v - 1, ret_bool HM.out.symm, HG2.out, HL2.out, fun h => by rw [HM.out] at h; cases h⟩
  | true =>
  by_cases ht : x.t = []
  case neg =>
    have ht0 : ((str x.t).toList != []) = true := by unfold bne; rw [empB_str, decide_eq_false ht]; rfl
    have ht1 : ((str x.t).toList == []) = false := by rw [empB_str, decide_eq_false ht]
    have HM := Lib.hid (may_parts (d := d) (v := v) HNN.out (.inr (.inr (.inl ht))))
    clear ht
    go_wp2_with (go_at_call 33; refine (HNM.out _).mono ?_; rintro e w3 ⟨rfl, hw3⟩; obtain rfl : w2 = w3 := hw3.symm)
    go_ret
    exact ⟨v - 1, ret_bool HM.out.symm, HG2.out, HL2.out, fun h => by rw [HM.out] at h; cases h⟩
  case pos =>
  have ht0 : ((str x.t).toList != []) = false := by unfold bne; rw [empB_str, decide_eq_true ht]; rfl
  have ht1 : ((str x.t).toList == []) = true := by rw [empB_str, decide_eq_true ht]
  have HTE := Lib.hid ht
  clear ht
  have HMA := Lib.hid (mayAttrs_any (.slice c1 x.ats.length c2) x.ats w2 (HX.out.onto HB02.out (Nat.le_refl _)).ats HTC.out.1 HTB.out.2.2.1)
  obtain ⟨AB, hAB⟩ : ∃ b, b = atsB [] x.ats := ⟨_, rfl⟩
  rw [← hAB] at HMA
  have HAB := Lib.hid hAB
  clear hAB
  cases AB with
  | false =>
    have HM := Lib.hid (may_parts (d := d) (v := v) HNN.out (.inr (.inr (.inr HAB.out.symm))))
    go_wp2_with (first
      | (go_at_call 33; refine (HNM.out _).mono ?_; rintro e w3 ⟨rfl, hw3⟩; obtain rfl : w2 = w3 := hw3.symm)
      | (go_at_call 34; refine HMA.out.mono ?_; rintro e w4 ⟨rfl, hb4⟩))
    go_ret
    exact ⟨v - 1, ret_bool HM.out.symm, grL_trans HG2.out (grL_below hb4), (hb4.block L (Array.getElem?_eq_some_iff.1 HL2.out).1).trans HL2.out, fun h => by rw [HM.out] at h; cases h⟩
  | true =>
  go_upto_region 8 with (first
      | (go_at_call 33; refine (HNM.out _).mono ?_; rintro e w3 ⟨rfl, hw3⟩; obtain rfl : w2 = w3 := hw3.symm)
      | (go_at_call 34; refine HMA.out.mono ?_; rintro e w4 ⟨rfl, hb4⟩))
  have HG4 := Lib.hid (show w2.grownBy w4 (some L) from grL_below hb4)
  have HL4 := Lib.hid ((hb4.block L (Array.getElem?_eq_some_iff.1 HL2.out).1).trans HL2.out)
  have HKI := Lib.hid (KI.start (x := x) HVV.out (Nat.le_of_not_lt HD64.out))
  clear hb4 x0 x1 x2 x3 l2 hs0 ht0 ht1 hge hdI
  obtain ⟨x0, x1, x2, x3⟩ := HXC.out w4 HG4.out
  have hkl := (HX.out.rd).len
  have hklI : (x.ks.length : Int) ≤ 9223372036854775807 := by omega
  go_upto_region 9 with fail
  clear x0 x1 x2 x3 hkl
  go_loopw [44] (fun i wr => ∃ k : Nat, k ≤ x.ks.length ∧ i = .int .i64 k ∧ w2.grownBy wr (some L) ∧ wr.heap[L]? = some (.cells #[.int .i64 (v - 1 - (Tr.sizes (x.ks.take k) : Int))] 3 (0, 0)) ∧ KI x d v k) (fun i _ => x.ks.length - (intOf i).toNat)
  case atStart => exact ⟨0, by omega, rfl, HG4.out, by rw [HL4.out]; simp [Tr.sizes], HKI.out⟩
  case round =>
    obtain ⟨k, hk, rfl, hgr, hlr, hki⟩ := hrel
    have HGR := Lib.hid hgr
    have HLR := Lib.hid hlr
    have HKK := Lib.hid hki
    clear hgr hlr hki
    by_cases hlt : k < x.ks.length
    · obtain ⟨y, hy⟩ : ∃ y, x.ks[k]? = some y := ⟨_, List.getElem?_eq_getElem hlt⟩
      have HBR := Lib.hid (grL_low HB02.out HL0.out HGR.out)
      obtain ⟨b3, e3, ya, yk, ⟨q0, q1, q2, q3⟩, hny⟩ := RdSl.elem (HX.out.onto HBR.out (Nat.le_refl _)).rd hy
      subst e3
      obtain ⟨d1, d2, d3, d4, rfl, rfl⟩ := node_cells hny
      obtain ⟨wb, hwb⟩ : ∃ wb, wb = wr.alloc (.cells #[.string (str y.n), .slice d1 y.ats.length d2, .slice d3 y.ks.length d4, .string (str y.t)] 26) := ⟨_, rfl⟩
      have hbb : Below wr.heap.size wr wb := by rw [hwb]; exact (Below.refl _ _).alloc (Nat.le_refl _) _
      have hrow : wb.heap[wr.heap.size]? = some (.cells #[.string (str y.n), .slice d1 y.ats.length d2, .slice d3 y.ks.length d4, .string (str y.t)] 26 (0, 0)) := by rw [hwb]; exact heap_alloc_new wr _
      have HGB := Lib.hid (grL_trans HGR.out (grL_below (L := L) hbb))
      have HLB := Lib.hid ((hbb.block L (Array.getElem?_eq_some_iff.1 HLR.out).1).trans HLR.out)
      have HBB := Lib.hid (grL_low HB02.out HL0.out HGB.out)
      have HY := Lib.hid hy
      have HNY := Lib.hid (show NdV w0 (allF w0) y (.slice d1 y.ats.length d2) (.slice d3 y.ks.length d4) by
        obtain ⟨b4, e4, ya4, yk4, ⟨z0, z1, z2, z3⟩, hz⟩ := RdSl.elem (HX.out).rd hy
        cases e4
        have k1 := (HBR.out.cell (World.block_lt_of_cell? w0 _ z1)).trans z1
        have k2 := (HBR.out.cell (World.block_lt_of_cell? w0 _ z2)).trans z2
        rw [q1] at k1
        rw [q2] at k2
        cases k1
        cases k2
        exact hz)
      have hvk0 : 0 ≤ v - 1 - (Tr.sizes (x.ks.take k) : Int) := by have := HKK.out.sz; omega
      have HCL := Lib.hid (HS.out y (List.mem_of_getElem? hy) w0 L V (d + 1) (v - 1 - (Tr.sizes (x.ks.take k) : Int)) _ _ wb HNY.out HBB.out HL0.out HLV.out HLB.out (HVC.out _ HGB.out) hvk0 (by omega) (by omega) (by have := HKK.out.dp; omega) (tbs_mem HTB.out.2.2.2 (List.mem_of_getElem? hy)) (tcs_mem HTC.out.2 (List.mem_of_getElem? hy)))
      unfold nodeV at HCL
      rw [show (((d + 1 : Nat)) : Int) = (d : Int) + 1 by omega] at HCL
      obtain ⟨B, hB⟩ : ∃ B, B = mayR (d + 1) (v - 1 - (Tr.sizes (x.ks.take k) : Int)) y := ⟨_, rfl⟩
      unfold MayQ at HCL
      rw [← hB] at HCL
      have HB := Lib.hid hB
      have HWB := Lib.hid hwb
      have HROWB := Lib.hid hrow
      have hkI : (k : Int) < (x.ks.length : Int) := by omega
      have hdI : IntKind.i64.wrap ((d : Int) + 1) = (d : Int) + 1 := by rw [IntWalk.i64_in _ (by omega)]
      have HQ := Lib.hid (show 0 < k → ∃ z : Tr, x.ks[k - 1]? = some z ∧ wb.cell? (b3.add ((k - 1) * 4)) = some (.string (str z.n)) from fun h0 => by
        obtain ⟨z, hz⟩ : ∃ z, x.ks[k - 1]? = some z := ⟨_, List.getElem?_eq_getElem (by omega)⟩
        obtain ⟨b4, e4, ya4, yk4, ⟨z0, z1, z2, z3⟩, hnz⟩ := RdSl.elem (HX.out.onto HBB.out (Nat.le_refl _)).rd hz
        cases e4
        exact ⟨z, hz, z0⟩)
      clear hwb hbb hrow hny hy hB hvk0
      go_upto_region 11 with fail
      rw [← HWB.out]
      generalize wr.heap.size = KB at HROWB ⊢
      clear q0 q1 q2 q3
      have b0 : wb.cell? ⟨KB, 0, none⟩ = some (.string (str y.n)) := by rw [cell_of_row wb _ 0 _ _ (0, 0) HROWB.out]; rfl
      have b1 : wb.cell? ⟨KB, 1, none⟩ = some (.slice d1 y.ats.length d2) := by rw [cell_of_row wb _ 1 _ _ (0, 0) HROWB.out]; rfl
      have b2 : wb.cell? ⟨KB, 2, none⟩ = some (.slice d3 y.ks.length d4) := by rw [cell_of_row wb _ 2 _ _ (0, 0) HROWB.out]; rfl
      have b4 : wb.cell? ⟨KB, 3, none⟩ = some (.string (str y.t)) := by rw [cell_of_row wb _ 3 _ _ (0, 0) HROWB.out]; rfl
      have bV := HVC.out wb HGB.out
      obtain ⟨x0, x1, x2, x3⟩ := HXC.out wb HGB.out
      have hyE := empB_str y.n
      by_cases h0 : 0 < k
      · obtain ⟨z, hz, z0⟩ := HQ.out h0
        have hk0 : 0 < (k : Int) := by omega
        have hk1 : decide (0 < k) = true := decide_eq_true h0
        have hk2 : decide (0 < (k : Int)) = true := decide_eq_true hk0
        obtain ⟨j, hj⟩ : ∃ j, j = k - 1 := ⟨_, rfl⟩
        have hwk : IntKind.i64.wrap ((k : Int) - 1) = (j : Int) := by rw [IntWalk.i64_in _ (by omega)]; omega
        have hjI : (j : Int) < (x.ks.length : Int) := by omega
        have hpre : preT x.ks k = decide (z.n = []) := by unfold preT; rw [hz, hk1]; rfl
        rw [← hj] at z0
        have hzE := empB_str z.n
        have HJ := Lib.hid hj
        have HPRE := Lib.hid hpre
        clear hj hz hpre h0
        by_cases hyn : y.n = []
        · rw [decide_eq_true hyn] at hyE
          have HYN := Lib.hid hyn
          clear hyn
          by_cases hzn : z.n = []
          · rw [decide_eq_true hzn] at hzE
            have HM := Lib.hid (HKK.out.twice HNN.out HY.out HYN.out (by rw [HPRE.out]; exact decide_eq_true hzn))
            clear hzn
            go_wp2_with fail
            go_ret
            exact ⟨_, ret_bool HM.out.symm, grL_trans HG2.out HGB.out, HLB.out, fun h => by rw [HM.out] at h; cases h⟩
          · rw [decide_eq_false hzn] at hzE
            have HPP := Lib.hid (show y.n = [] → preT x.ks k = false from fun _ => by rw [HPRE.out]; exact decide_eq_false hzn)
            clear hzn
            cases B with
            | false =>
              have HM := Lib.hid (HKK.out.no HNN.out hd1 HY.out HB.out.symm)
              go_wp2_with (go_at_call 31; refine HCL.out.mono ?_; rintro e w9 ⟨v9, rfl, hg9, hl9, hm9⟩)
              go_ret
              exact ⟨v9, ret_bool HM.out.symm, grL_trans HG2.out (grL_trans HGB.out hg9), hl9, fun h => by rw [HM.out] at h; cases h⟩
            | true =>
              obtain ⟨hy1, hy2⟩ := HKK.out.yes hd1 HY.out HPP.out HB.out.symm
              have HK1 := Lib.hid hy1
              have HK2 := Lib.hid hy2
              clear hy1 hy2
              go_wp2_with (go_at_call 31; refine HCL.out.mono ?_; rintro e w9 ⟨v9, rfl, hg9, hl9, hm9⟩; have HG9 := Lib.hid (grL_trans HGB.out hg9); have HL9 := Lib.hid (show w9.heap[L]? = some (.cells #[.int .i64 (v - 1 - (Tr.sizes (x.ks.take (k + 1)) : Int))] 3 (0, 0)) by rw [hl9, hm9 rfl, HK2.out]); clear hg9 hl9 hm9)
              go_roundw
              case rel => exact ⟨k + 1, by omega, by go_num, HG9.out, HL9.out, HK1.out⟩
              case measure => simp [intOf]; omega
        · rw [decide_eq_false hyn] at hyE
          have HPP := Lib.hid (show y.n = [] → preT x.ks k = false from fun h => absurd h hyn)
          clear hyn
          cases B with
          | false =>
            have HM := Lib.hid (HKK.out.no HNN.out hd1 HY.out HB.out.symm)
            go_wp2_with (go_at_call 31; refine HCL.out.mono ?_; rintro e w9 ⟨v9, rfl, hg9, hl9, hm9⟩)
            go_ret
            exact ⟨v9, ret_bool HM.out.symm, grL_trans HG2.out (grL_trans HGB.out hg9), hl9, fun h => by rw [HM.out] at h; cases h⟩
          | true =>
            obtain ⟨hy1, hy2⟩ := HKK.out.yes hd1 HY.out HPP.out HB.out.symm
            have HK1 := Lib.hid hy1
            have HK2 := Lib.hid hy2
            clear hy1 hy2
            go_wp2_with (go_at_call 31; refine HCL.out.mono ?_; rintro e w9 ⟨v9, rfl, hg9, hl9, hm9⟩; have HG9 := Lib.hid (grL_trans HGB.out hg9); have HL9 := Lib.hid (show w9.heap[L]? = some (.cells #[.int .i64 (v - 1 - (Tr.sizes (x.ks.take (k + 1)) : Int))] 3 (0, 0)) by rw [hl9, hm9 rfl, HK2.out]); clear hg9 hl9 hm9)
            go_roundw
            case rel => exact ⟨k + 1, by omega, by go_num, HG9.out, HL9.out, HK1.out⟩
            case measure => simp [intOf]; omega
      · have hk0 : ¬ 0 < (k : Int) := by omega
        have hk1 : decide (0 < k) = false := decide_eq_false h0
        have hk2 : decide (0 < (k : Int)) = false := decide_eq_false hk0
        have HPP := Lib.hid (show y.n = [] → preT x.ks k = false from fun _ => by unfold preT; rw [hk1]; rfl)
        clear h0
        cases B with
        | false =>
          have HM := Lib.hid (HKK.out.no HNN.out hd1 HY.out HB.out.symm)
          go_wp2_with (go_at_call 31; refine HCL.out.mono ?_; rintro e w9 ⟨v9, rfl, hg9, hl9, hm9⟩)
          go_ret
          exact ⟨v9, ret_bool HM.out.symm, grL_trans HG2.out (grL_trans HGB.out hg9), hl9, fun h => by rw [HM.out] at h; cases h⟩
        | true =>
          obtain ⟨hy1, hy2⟩ := HKK.out.yes hd1 HY.out HPP.out HB.out.symm
          have HK1 := Lib.hid hy1
          have HK2 := Lib.hid hy2
          clear hy1 hy2
          go_wp2_with (go_at_call 31; refine HCL.out.mono ?_; rintro e w9 ⟨v9, rfl, hg9, hl9, hm9⟩; have HG9 := Lib.hid (grL_trans HGB.out hg9); have HL9 := Lib.hid (show w9.heap[L]? = some (.cells #[.int .i64 (v - 1 - (Tr.sizes (x.ks.take (k + 1)) : Int))] 3 (0, 0)) by rw [hl9, hm9 rfl, HK2.out]); clear hg9 hl9 hm9)
          go_roundw
          case rel => exact ⟨k + 1, by omega, by go_num, HG9.out, HL9.out, HK1.out⟩
          case measure => simp [intOf]; omega
    · have hke : (x.ks.length : Int) ≤ k := by omega
      obtain ⟨hm1, hm2⟩ := HKK.out.done HNN.out (by omega) HNB.out.symm HTE.out HAB.out.symm
      have HM := Lib.hid hm1
      have HM2 := Lib.hid hm2
      clear hm1 hm2
      go_wp2_with fail
      go_ret
      exact ⟨_, ret_bool HM.out.symm, grL_trans HG2.out HGR.out, HLR.out, fun _ => HM2.out⟩
theorem mayc_all : ∀ (m : Nat) (x : Tr), x.size ≤ m → MayC x
  | 0, x, h => by have := x.size_pos; omega
  | m + 1, x, h => mayc_step x fun k hk => mayc_all m k (by
    have h1 := Tr.size_mem hk
    have h2 := x.size_ks
    omega)
end
/-! MayW3 -/
section
open Go.RowKit

theorem mayR_top (x : Tr) : mayR 1 4096 x = x.mayB := by
  unfold mayR kB Tr.mayB
  have h1 : decide ((x.size : Int) ≤ 4096) = decide (x.size ≤ 4096) := by
    by_cases h : x.size ≤ 4096
    · rw [decide_eq_true h, decide_eq_true (by omega)]
    · rw [decide_eq_false h, decide_eq_false (by omega)]
  have h2 : decide (1 + x.dep ≤ 65) = decide (x.dep ≤ 64) := by
    by_cases h : x.dep ≤ 64
    · rw [decide_eq_true h, decide_eq_true (by omega)]
    · rw [decide_eq_false h, decide_eq_false (by omega)]
  rw [h1, h2]
  by_cases hn : x.n = []
  · rw [if_pos hn]
    have hr : x.rightB = false := by
      obtain ⟨n, ats, ks, t⟩ := x
      have hn : n = [] := hn
      subst hn
      rw [Tr.rightB]; rfl
    rw [hr]; simp
  · rw [if_neg hn]
    cases x.rightB <;> simp
set_option maxRecDepth 100000 in
set_option maxHeartbeats 2000000 in
/-- tree.May -/
theorem TMay_any (x : Tr) (va vk : Value) (w : World) (hx : NdV w (allF w) x va vk) (htb : x.tb) (htc : x.tc) :
    Calls Tryz.prog 15 #[nodeV x va vk] w fun e w' => e = .returned (.bool x.mayB) ∧ Below w.heap.size w w' := by
  obtain ⟨c1, c2, c3, c4, rfl, rfl⟩ := node_cells hx
  have HMC := Lib.hid (fun (L V : Nat) (w2 : World) (hb : Below w.heap.size w w2) (hL : w.heap.size ≤ L) (hLV : L < V) h1 h2 => mayc_all x.size x (Nat.le_refl _) w L V 1 4096 (.slice c1 x.ats.length c2) (.slice c3 x.ks.length c4) w2 hx hb hL hLV h1 h2 (by decide) (by decide) (by decide) (by decide) htb htc)
  unfold nodeV at HMC ⊢
  obtain ⟨w1, hw1⟩ : ∃ w1, w1 = ((w.alloc (.cells #[.string (str x.n), .slice c1 x.ats.length c2, .slice c3 x.ks.length c4, .string (str x.t)] 26)).alloc (.cells #[.int .i64 4096] 3)).alloc (.cells #[.nilFunc] 69) := ⟨_, rfl⟩
  have hb1 : Below w.heap.size w w1 := by rw [hw1]; exact (((Below.refl _ _).alloc (Nat.le_refl _) _).alloc (by simp) _).alloc (by simp; omega) _
  have hN1 : w1.heap[w.heap.size]? = some (.cells #[.string (str x.n), .slice c1 x.ats.length c2, .slice c3 x.ks.length c4, .string (str x.t)] 26 (0, 0)) := by
    rw [hw1, Below.heap_alloc _ _ _ (by simp; omega), Below.heap_alloc _ _ _ (by simp)]
    exact heap_alloc_new w _
  have hL1 : w1.heap[w.heap.size + 1]? = some (.cells #[.int .i64 4096] 3 (0, 0)) := by
    rw [hw1, Below.heap_alloc _ _ _ (by simp)]
    have := heap_alloc_new (w.alloc (.cells #[.string (str x.n), .slice c1 x.ats.length c2, .slice c3 x.ks.length c4, .string (str x.t)] 26)) (.cells #[.int .i64 4096] 3 (0, 0))
    simpa using this
  have hV1 : w1.heap[w.heap.size + 1 + 1]? = some (.cells #[.nilFunc] 69 (0, 0)) := by
    rw [hw1]
    have := heap_alloc_new ((w.alloc (.cells #[.string (str x.n), .slice c1 x.ats.length c2, .slice c3 x.ks.length c4, .string (str x.t)] 26)).alloc (.cells #[.int .i64 4096] 3 (0, 0))) (.cells #[.nilFunc] 69 (0, 0))
    simpa using this
  obtain ⟨F, hF⟩ : ∃ F, F = Value.func (.func 31) #[] #[.pointer (some ⟨w.heap.size + 1, 0, none⟩), .pointer (some ⟨w.heap.size + 1 + 1, 0, none⟩)] := ⟨_, rfl⟩
  obtain ⟨w2, hw2⟩ : ∃ w2, w2 = w1.setCell ⟨w.heap.size + 1 + 1, 0, none⟩ F := ⟨_, rfl⟩
  have hV2 : w2.heap[w.heap.size + 1 + 1]? = some (.cells #[F] 69 (0, 0)) := by rw [hw2]; exact heap_setCell_same w1 (w.heap.size + 1 + 1) 0 _ _ F hV1
  have hL2 : w2.heap[w.heap.size + 1]? = some (.cells #[.int .i64 4096] 3 (0, 0)) := by rw [hw2, heap_setCell_other w1 _ (w.heap.size + 1) F (fun e => by simp only at e; omega)]; exact hL1
  have hN2 : w2.heap[w.heap.size]? = some (.cells #[.string (str x.n), .slice c1 x.ats.length c2, .slice c3 x.ks.length c4, .string (str x.t)] 26 (0, 0)) := by rw [hw2, heap_setCell_other w1 _ w.heap.size F (fun e => by simp only at e; omega)]; exact hN1
  have hcV : w2.cell? ⟨w.heap.size + 1 + 1, 0, none⟩ = some F := by rw [cell_of_row w2 _ 0 _ _ (0, 0) hV2]; rfl
  have hb2 : Below w.heap.size w w2 := by rw [hw2]; exact hb1.setCell (p := ⟨w.heap.size + 1 + 1, 0, none⟩) (by simp only; omega) F
  have hcl := HMC.out (w.heap.size + 1) (w.heap.size + 1 + 1) w2 hb2 (by omega) (by omega) hL2 (by rw [hcV, hF])
  unfold MayQ at hcl
  rw [mayR_top] at hcl
  obtain ⟨R, hR⟩ : ∃ R, R = x.mayB := ⟨_, rfl⟩
  rw [← hR] at hcl
  have HRR := Lib.hid hR
  have HCL := Lib.hid hcl
  have HB2 := Lib.hid hb2
  have f1 : w1.frozen? ⟨w.heap.size + 1 + 1, 0, none⟩ = false := frozen_of_row w1 _ 0 _ _ hV1
  have v1 : w1.cell? ⟨w.heap.size + 1 + 1, 0, none⟩ = some .nilFunc := by rw [cell_of_row w1 _ 0 _ _ (0, 0) hV1]; rfl
  have HW1 := Lib.hid hw1
  have HW2 := Lib.hid hw2
  have HF := Lib.hid hF
  have HV2 := Lib.hid hV2
  have HN2 := Lib.hid hN2
  clear hw1 hw2 hx hb1 hN1 hL1 hV1 hV2 hL2 hN2 hcV hF hb2 hcl HMC htb htc hR
  go_enter Tryz.func15, Tryz.ntmps15
  go_upto_region 3 with fail
  rw [← HW1.out]
  go_upto_region 4 with fail
  rw [← HF.out, ← HW2.out]
  have b0 : w2.cell? ⟨w.heap.size, 0, none⟩ = some (.string (str x.n)) := by rw [cell_of_row w2 _ 0 _ _ (0, 0) HN2.out]; rfl
  have b1 : w2.cell? ⟨w.heap.size, 1, none⟩ = some (.slice c1 x.ats.length c2) := by rw [cell_of_row w2 _ 1 _ _ (0, 0) HN2.out]; rfl
  have b2 : w2.cell? ⟨w.heap.size, 2, none⟩ = some (.slice c3 x.ks.length c4) := by rw [cell_of_row w2 _ 2 _ _ (0, 0) HN2.out]; rfl
  have b3 : w2.cell? ⟨w.heap.size, 3, none⟩ = some (.string (str x.t)) := by rw [cell_of_row w2 _ 3 _ _ (0, 0) HN2.out]; rfl
  have bV : w2.cell? ⟨w.heap.size + 1 + 1, 0, none⟩ = some (.func (.func 31) #[] #[.pointer (some ⟨w.heap.size + 1, 0, none⟩), .pointer (some ⟨w.heap.size + 1 + 1, 0, none⟩)]) := by rw [cell_of_row w2 _ 0 _ _ (0, 0) HV2.out, HF.out]; rfl
  clear f1 v1
  go_wp2_with fail
  refine HCL.out.mono ?_
  rintro e w5 ⟨v5, rfl, hg5, hl5, hm5⟩
  have HB5 := Lib.hid (grL_low HB2.out (by omega) hg5)
  clear hg5 hl5 hm5 b0 b1 b2 b3 bV HCL
  go_wp2
  go_ret
  exact ⟨ret_bool HRR.out, HB5.out⟩
/-! tree.Count -/
def TCntAt (x : Tr) : Prop := ∀ (va vk : Value) (w : World), NdV w (allF w) x va vk → Calls Tryz.prog 17 #[nodeV x va vk] w fun e w' => e = .returned (.int .i64 (x.size : Int)) ∧ Below w.heap.size w w'
set_option maxRecDepth 100000 in
set_option maxHeartbeats 2000000 in
theorem tcnt_step (x : Tr) (hz : x.size ≤ 1000000) (hS : ∀ k ∈ x.ks, TCntAt k) : TCntAt x := by
  intro va vk w hx
  obtain ⟨c1, c2, c3, c4, rfl, rfl⟩ := node_cells hx
  obtain ⟨n, ats, ks, t⟩ := x
  unfold nodeV
  simp only [Tr.n, Tr.ats, Tr.ks, Tr.t] at hx hS ⊢
  obtain ⟨w1, hw1⟩ : ∃ w1, w1 = w.alloc (.cells #[.string (str n), .slice c1 ats.length c2, .slice c3 ks.length c4, .string (str t)] 26) := ⟨_, rfl⟩
  have hb1 : Below w.heap.size w w1 := by rw [hw1]; exact (Below.refl _ _).alloc (Nat.le_refl _) _
  have hX : w1.heap[w.heap.size]? = some (.cells #[.string (str n), .slice c1 ats.length c2, .slice c3 ks.length c4, .string (str t)] 26 (0, 0)) := by rw [hw1]; exact heap_alloc_new w _
  have HKX := Lib.hid (show ∀ w2, Below w.heap.size w w2 → RdSl 4 (NdAt w2 (allF w2)) (.slice c3 ks.length c4) ks from fun w2 hb => (hx.onto hb (Nat.le_refl _)).rd)
  have hkl := RdSl.len hx.rd
  simp only [Tr.ks] at hkl
  have hklI : (ks.length : Int) ≤ 9223372036854775807 := by omega
  have hsz : 1 + Tr.sizes ks ≤ 1000000 := hz
  have HS := Lib.hid hS
  have HW1 := Lib.hid hw1
  have HB1 := Lib.hid hb1
  have x2 : w1.cell? ⟨w.heap.size, 2, none⟩ = some (.slice c3 ks.length c4) := by rw [cell_of_row w1 _ 2 _ _ (0, 0) hX]; rfl
  clear hx hS hw1 hb1 hX hz
  go_enter Tryz.func17, Tryz.ntmps17
  go_upto_region 1 with fail
  rw [← HW1.out]
  go_upto_region 3 with fail
  clear x2
  go_loopw [3, 9] (fun s i wr => ∃ (k : Nat), k ≤ ks.length ∧ i = .int .i64 k ∧ s = .int .i64 ((1 + Tr.sizes (ks.take k) : Nat) : Int) ∧ Below w.heap.size w wr) (fun _ i _ => ks.length - (intOf i).toNat)
  case atStart => exact ⟨0, by omega, rfl, rfl, HB1.out⟩
  case round =>
    obtain ⟨k, hk, rfl, rfl, hbw⟩ := hrel
    have HB := Lib.hid hbw
    have hst := sizes_take ks k
    have hdt := deps_sizes (ks.take k)
    by_cases hlt : k < ks.length
    · obtain ⟨y, hy⟩ : ∃ y, ks[k]? = some y := ⟨_, List.getElem?_eq_getElem hlt⟩
      obtain ⟨a1, e1, va, vk, ⟨q0, q1, q2, q3⟩, hny⟩ := RdSl.elem (HKX.out wr hbw) hy
      subst e1
      obtain ⟨s1, s2, s3, s4, rfl, rfl⟩ := node_cells hny
      have hkI : (k : Int) < (ks.length : Int) := by omega
      obtain ⟨wb, hwb⟩ : ∃ wb, wb = wr.alloc (.cells #[.string (str y.n), .slice s1 y.ats.length s2, .slice s3 y.ks.length s4, .string (str y.t)] 26) := ⟨_, rfl⟩
      have hbb : Below wr.heap.size wr wb := by rw [hwb]; exact (Below.refl _ _).alloc (Nat.le_refl _) _
      have hrow : wb.heap[wr.heap.size]? = some (.cells #[.string (str y.n), .slice s1 y.ats.length s2, .slice s3 y.ks.length s4, .string (str y.t)] 26 (0, 0)) := by rw [hwb]; exact heap_alloc_new wr _
      have HC := Lib.hid (HS.out y (List.mem_of_getElem? hy) _ _ wb (hny.onto hbb (Nat.le_refl _)))
      unfold nodeV at HC
      have HBW := Lib.hid (hbw.trans (hbb.mono hbw.size))
      have HWB := Lib.hid hwb
      have HSN := Lib.hid (sizes_snoc ks k y hy)
      have HDN := Lib.hid (deps_snoc ks k y hy)
      have hs2 := sizes_take ks (k + 1)
      have hds := dep_size y
      rw [HSN.out] at hs2
      have r0 : wb.cell? ⟨wr.heap.size, 0, none⟩ = some (.string (str y.n)) := by rw [cell_of_row wb _ 0 _ _ (0, 0) hrow]; rfl
      have r1 : wb.cell? ⟨wr.heap.size, 1, none⟩ = some (.slice s1 y.ats.length s2) := by rw [cell_of_row wb _ 1 _ _ (0, 0) hrow]; rfl
      have r2 : wb.cell? ⟨wr.heap.size, 2, none⟩ = some (.slice s3 y.ks.length s4) := by rw [cell_of_row wb _ 2 _ _ (0, 0) hrow]; rfl
      have r3 : wb.cell? ⟨wr.heap.size, 3, none⟩ = some (.string (str y.t)) := by rw [cell_of_row wb _ 3 _ _ (0, 0) hrow]; rfl
      clear hy hbw hwb hbb hrow hny
      go_upto_region 5 with fail
      rw [← HWB.out]
      generalize wr.heap.size = Y at r0 r1 r2 r3 ⊢
      clear q0 q1 q2 q3
      go_wp2_with fail
      refine HC.out.mono ?_
      rintro e w5 ⟨rfl, hb5⟩
      have HB5 := Lib.hid (HBW.out.trans (hb5.mono HBW.out.size))
      obtain ⟨D, hD⟩ : ∃ D, D = 1 + Tr.sizes (ks.take k) := ⟨_, rfl⟩
      have HN := Lib.hid (show 1 + Tr.sizes (ks.take (k + 1)) = D + y.size by rw [HSN.out, hD]; omega)
      have hDI : (D : Int) + (y.size : Int) ≤ 1000000 := by omega
      rw [← hD]
      clear hb5 r0 r1 r2 r3 hD hs2 hds hst hdt
      generalize y.size = d at HN hDI ⊢
      go_wp2_with fail
      go_roundw
      case rel => exact ⟨k + 1, by omega, by go_num, by rw [HN.out]; go_num, HB5.out⟩
      case measure => simp [intOf]; omega
    · have hle : (ks.length : Int) ≤ k := by omega
      have HT := Lib.hid (show ks.take k = ks from List.take_of_length_le (by omega))
      rw [HT.out] at hst hdt ⊢
      have hfin : ((1 + Tr.sizes ks : Nat) : Int) ≤ 1000000 := by omega
      obtain ⟨D, hD⟩ : ∃ D, D = 1 + Tr.sizes ks := ⟨_, rfl⟩
      rw [← hD] at hfin ⊢
      have HD := Lib.hid hD
      clear hD hst hdt hbw
      go_wp2_with fail
      go_ret
      exact ⟨ret_int (by simp only [Tr.size, HD.out]), HB.out⟩
theorem tcnt_all : ∀ (m : Nat) (x : Tr), x.size ≤ m → x.size ≤ 1000000 → TCntAt x
  | 0, x, h, _ => absurd x.size_pos (by omega)
  | m + 1, x, h, hz => tcnt_step x hz fun k hk => tcnt_all m k (by
    have h1 := Tr.size_mem hk
    have h2 := x.size_ks
    omega) (by
    have h1 := Tr.size_mem hk
    have h2 := x.size_ks
    omega)
theorem TCount_any (x : Tr) (hz : x.size ≤ 1000000) : TCntAt x := tcnt_all x.size x (Nat.le_refl _) hz
end
/-! Laws03f -/
section
open Go.ChangeShapes Go.WideShapes Go.ChangeAt Go.RowKit
open Go.ChangeMaps (open_string shut_string)

abbrev SdS (w0 : World) (X : Nat) (x : Tr) (c1 : Option Addr) (c2 : Nat) (c3 : Option Addr) (c4 : Nat) (w' : World) : Prop := w'.cell? ⟨X, 0, none⟩ = some (.string (str x.n)) ∧ w'.cell? ⟨X, 1, none⟩ = some (.slice c1 x.ats.length c2) ∧ w'.cell? ⟨X, 2, none⟩ = some (.slice c3 x.ks.length c4) ∧ w'.cell? ⟨X, 3, none⟩ = some (.string (str x.t)) ∧ Below w0.heap.size w0 w'
section
variable {w0 w' w5 : World} {X : Nat} {x : Tr} {c1 c3 : Option Addr} {c2 c4 : Nat}
theorem SdS.b (h : SdS w0 X x c1 c2 c3 c4 w') : Below w0.heap.size w0 w' := h.2.2.2.2
theorem SdS.below (h : SdS w0 X x c1 c2 c3 c4 w') (hb : Below w'.heap.size w' w5) : SdS w0 X x c1 c2 c3 c4 w5 := by
  obtain ⟨h0, h1, h2, h3, hbb⟩ := h
  have hc : ∀ {A : Addr} {v : Value}, w'.cell? A = some v → w5.cell? A = some v := fun h => (hb.cell (World.block_lt_of_cell? w' _ h)).trans h
  exact ⟨hc h0, hc h1, hc h2, hc h3, hbb.trans (hb.mono hbb.size)⟩
theorem SdS.drew (h : SdS w0 X x c1 c2 c3 c4 w') : SdS w0 X x c1 c2 c3 c4 w'.drew := h.below (Below.refl _ _).drew
end
set_option maxRecDepth 100000 in
set_option maxHeartbeats 4000000 in
theorem walk_TreePrints (x : Tr) (va vk : Value) (w : World) (hx : NdV w (allF w) x va vk) (hT : Lib.Utf8Tabs 1 2 w) :
    Calls Tryz.prog 4 #[.agg #[.string (str x.n), va, vk, .string (str x.t)]] w fun e w' => e = .returned (.bool true) ∧ Below w.heap.size w w' := by
  obtain ⟨c1, c2, c3, c4, rfl, rfl⟩ := node_cells hx
  obtain ⟨w1, hw1⟩ : ∃ w1, w1 = w.alloc (.cells #[.string (str x.n), .slice c1 x.ats.length c2, .slice c3 x.ks.length c4, .string (str x.t)] 26) := ⟨_, rfl⟩
  have hb1 : Below w.heap.size w w1 := by rw [hw1]; exact (Below.refl _ _).alloc (Nat.le_refl _) _
  have hX : w1.heap[w.heap.size]? = some (.cells #[.string (str x.n), .slice c1 x.ats.length c2, .slice c3 x.ks.length c4, .string (str x.t)] 26 (0, 0)) := by rw [hw1]; exact heap_alloc_new w _
  have HXC := Lib.hid (show ∀ w2, Below w1.heap.size w1 w2 → Sr3 w.heap.size x c1 c2 c3 c4 w2 from fun w2 hb => Sr3.below ⟨by rw [cell_of_row w1 _ 0 _ _ (0, 0) hX]; rfl, by rw [cell_of_row w1 _ 1 _ _ (0, 0) hX]; rfl, by rw [cell_of_row w1 _ 2 _ _ (0, 0) hX]; rfl, by rw [cell_of_row w1 _ 3 _ _ (0, 0) hX]; rfl⟩ hb (Nat.le_refl _))
  have hup : ∀ w2, Below w1.heap.size w1 w2 → Below w.heap.size w w2 := fun w2 hb => hb1.trans (hb.mono hb1.size)
  have HUP := Lib.hid hup
  have HN := Lib.hid (show ∀ w2, Below w1.heap.size w1 w2 → NdV w2 (allF w2) x (.slice c1 x.ats.length c2) (.slice c3 x.ks.length c4) from fun w2 hb => hx.onto (hup w2 hb) (Nat.le_refl _))
  have HLV := Lib.hid (show ∀ w2, Below w1.heap.size w1 w2 → Calls Tryz.prog 10 #[] w2 fun e w' => e = .returned (.bool true) ∧ Below w2.heap.size w2 w' from fun w2 hb => lives03 w2 (Utf8Tabs_below hT (hup w2 hb)))
  have HTT := Lib.hid (show ∀ w2, Below w1.heap.size w1 w2 → Lib.Utf8Tabs 1 2 w2 from fun w2 hb => Utf8Tabs_below hT (hup w2 hb))
  have HW1 := Lib.hid hw1
  clear hx hT hw1 hb1 hX hup
  go_enter Tryz.func4, Tryz.ntmps4
  go_upto_region 1 with fail
  rw [← HW1.out]
  clear HW1
  obtain ⟨x0, x1, x2, x3⟩ := HXC.out w1 (Below.refl _ _)
  go_wp2_with fail
  refine (Lights_any x (.slice c1 x.ats.length c2) (.slice c3 x.ks.length c4) w1 (HN.out w1 (Below.refl _ _))).mono ?_
  rintro e w2 ⟨⟨b1, rfl, hsm⟩, hb2⟩
  have HB2 := Lib.hid hb2
  clear hb2 x0 x1 x2 x3
  cases b1 with
  | false =>
    clear hsm
    go_wp2_with (go_at_call 10; refine (HLV.out _ HB2.out).mono ?_; rintro e w5 ⟨rfl, hb5⟩)
    go_ret
    exact ⟨rfl, (HUP.out _ HB2.out).trans (hb5.mono (HUP.out _ HB2.out).size)⟩
  | true =>
    have HSM := Lib.hid (hsm rfl)
    clear hsm
    obtain ⟨x0, x1, x2, x3⟩ := HXC.out w2 HB2.out
    have hT2 := HSM.out.2.1
    have hS2 := HSM.out.1
    obtain ⟨P, hP⟩ : ∃ P, P = prM (tkT x) := ⟨_, rfl⟩
    obtain ⟨R, hR⟩ : ∃ R, R = x.mayB := ⟨_, rfl⟩
    obtain ⟨Z, hZ⟩ : ∃ Z, Z = x.size := ⟨_, rfl⟩
    have hpl := prT_len x hS2
    have H1 := Lib.hid (show ∀ w2, Below w1.heap.size w1 w2 → Calls Tryz.prog 13 #[.agg #[.string (str x.n), .slice c1 x.ats.length c2, .slice c3 x.ks.length c4, .string (str x.t)]] w2 fun e w' => e = .returned (.string (str P)) ∧ Below w2.heap.size w2 w' from fun w2 hb => by
      rw [hP]; exact TPrint_any x _ _ w2 (HN.out w2 hb) (by have h1 := tkT_len x; omega) hpl.2 (by have h1 := hpl.1; omega))
    have H2 := Lib.hid (show ∀ w2, Below w1.heap.size w1 w2 → Calls Tryz.prog 14 #[.agg #[.string (str x.n), .slice c1 x.ats.length c2, .slice c3 x.ks.length c4, .string (str x.t)]] w2 fun e w' => e = .returned (.string (str P)) ∧ Below w2.heap.size w2 w' from fun w2 hb => by
      rw [hP]; exact RPrint_any x _ _ w2 (HN.out w2 hb) (by have h1 := hpl.1; omega) (sm_tb x hS2))
    have H3 := Lib.hid (show ∀ w2, Below w1.heap.size w1 w2 → Calls Tryz.prog 15 #[.agg #[.string (str x.n), .slice c1 x.ats.length c2, .slice c3 x.ks.length c4, .string (str x.t)]] w2 fun e w' => e = .returned (.bool R) ∧ Below w2.heap.size w2 w' from fun w2 hb => by
      rw [hR]; exact TMay_any x _ _ w2 (HN.out w2 hb) (sm_tb x hS2) (sm_tc x hS2))
    have H4 := Lib.hid (show ∀ w2, Below w1.heap.size w1 w2 → Calls Tryz.prog 16 #[.agg #[.string (str x.n), .slice c1 x.ats.length c2, .slice c3 x.ks.length c4, .string (str x.t)]] w2 fun e w' => e = .returned (.bool R) ∧ Below w2.heap.size w2 w' from fun w2 hb => by
      rw [hR]; exact refMay_any x _ _ w2 (by omega) (sm_tb x hS2) (HN.out w2 hb))
    have H5 := Lib.hid (show ∀ w2, Below w1.heap.size w1 w2 → Calls Tryz.prog 17 #[.agg #[.string (str x.n), .slice c1 x.ats.length c2, .slice c3 x.ks.length c4, .string (str x.t)]] w2 fun e w' => e = .returned (.int .i64 (Z : Int)) ∧ Below w2.heap.size w2 w' from fun w2 hb => by
      rw [hZ]; exact TCount_any x (by omega) _ _ w2 (HN.out w2 hb))
    have H6 := Lib.hid (show ∀ w2, Below w1.heap.size w1 w2 → Calls Tryz.prog 18 #[.agg #[.string (str x.n), .slice c1 x.ats.length c2, .slice c3 x.ks.length c4, .string (str x.t)]] w2 fun e w' => e = .returned (.int .i64 (Z : Int)) ∧ Below w2.heap.size w2 w' from fun w2 hb => by
      rw [hZ]; exact Count_any x (by omega) _ _ w2 (HN.out w2 hb))
    have HS2 := Lib.hid (show SdS w1 w.heap.size x c1 c2 c3 c4 w2 from ⟨x0, x1, x2, x3, HB2.out⟩)
    clear hT2 hS2 hP hR hZ hpl
    generalize w.heap.size = X at HS2 x0 x1 x2 x3 ⊢
    go_upto_region 3 with fail
    cases R
    all_goals
      go_region_held3 (fun w' => w'.cell? ⟨X, 0, none⟩ = some (.string (str x.n)) ∧ w'.cell? ⟨X, 1, none⟩ = some (.slice c1 x.ats.length c2) ∧ w'.cell? ⟨X, 2, none⟩ = some (.slice c3 x.ks.length c4) ∧ w'.cell? ⟨X, 3, none⟩ = some (.string (str x.t)) ∧ Below w1.heap.size w1 w')
        (first | exact SdS.below (by assumption) (by assumption) | exact SdS.drew (by assumption) | exact SdS.drew HS2.out)
        (first
          | (go_at_call 13; with_reducible refine (H1.out _ (SdS.b (by assumption))).mono ?_; rintro e w5 ⟨rfl, hb5⟩)
          | (go_at_call 14; with_reducible refine (H2.out _ (SdS.b (by assumption))).mono ?_; rintro e w5 ⟨rfl, hb5⟩)
          | (go_at_call 15; with_reducible refine (H3.out _ (SdS.b (by assumption))).mono ?_; rintro e w5 ⟨rfl, hb5⟩)
          | (go_at_call 16; with_reducible refine (H4.out _ (SdS.b (by assumption))).mono ?_; rintro e w5 ⟨rfl, hb5⟩)
          | (go_at_call 17; with_reducible refine (H5.out _ (SdS.b (by assumption))).mono ?_; rintro e w5 ⟨rfl, hb5⟩)
          | (go_at_call 18; with_reducible refine (H6.out _ (SdS.b (by assumption))).mono ?_; rintro e w5 ⟨rfl, hb5⟩)
          | (go_at_call 10; with_reducible refine (HLV.out _ (SdS.b (by assumption))).mono ?_; rintro e w5 ⟨rfl, hb5⟩))
      go_wp2
      go_ret
      exact ⟨rfl, HUP.out _ (SdS.b (by assumption))⟩


theorem laid_met_TreePrints (os : Os) : laidMet Tryz.prog Rows.treePrintsRow.laid ((laidWorld #[.agg #[.string .empty, .slice none 0 0, .slice none 0 0, .string .empty]] os).forCall (fun _ _ => 0) ⟨#[], #[.agg #[.string .empty, .slice none 0 0, .slice none 0 0, .string .empty]], []⟩).memory :=
  laidMet_of_run' 8 (by kernel_rfl) (by kernel_rfl)
theorem reads_TreePrints (os : Os) {H : Type} (enc : TypeId × Value → H) : ∃ places, DataW.whole enc Tryz.prog ((laidWorld #[.agg #[.string .empty, .slice none 0 0, .slice none 0 0, .string .empty]] os).forCall (fun _ _ => 0) ⟨#[], #[.agg #[.string .empty, .slice none 0 0, .slice none 0 0, .string .empty]], []⟩).memory Tryz.f4.params.toList Rows.treePrintsSpec.vars false (#[.agg #[.string .empty, .slice none 0 0, .slice none 0 0, .string .empty]] : Array Value).toList 8 = some ([.agg [.lit (.string []), .nil, .nil, .lit (.string [])]], [], places) :=
  ⟨[], by kernel_rfl⟩
set_option maxRecDepth 100000 in
theorem lifted_TreePrints (os : Os) (started : os.Started) (H : Type) (enc : TypeId × Value → H) (F : Stop.Interp) :
    ReturnsInHanded {} Tryz.checked os 4 .any ((OpenSpec.ofChange Rows.treePrintsSpec).preRow enc Tryz.prog Tryz.f4 Rows.treePrintsRow.domain false Rows.treePrintsRow.laid) (((OpenSpec.ofChange Rows.treePrintsSpec).at F).post enc Tryz.prog Tryz.f4 false true false false) := by
  obtain ⟨places, hx⟩ := reads_TreePrints os enc
  refine returnsInHanded_of_row (C := Tryz.checked) (s := OpenSpec.ofChange Rows.treePrintsSpec) own_knob started (by kernel_rfl) Tryz.func4
    (witness_row_at (enc := enc) (C := Tryz.checked) false (laidWorld #[.agg #[.string .empty, .slice none 0 0, .slice none 0 0, .string .empty]] os) #[.agg #[.string .empty, .slice none 0 0, .slice none 0 0, .string .empty]] rfl (by kernel_rfl) (by kernel_rfl) (by kernel_rfl)
      (OpenSpec.preRow_of_cond 8 hx (by kernel_rfl) (fun k hk => by cases hk) (by kernel_rfl) (laid_met_TreePrints os))) ?_
  intro W base args ds gs before hval0 hW _ _ _ hL hsh _
  have hU : Lib.Utf8Tabs 1 2 W :=
    utf8Tabs_of_reads (ρ := Tryz.lays260_ren) { Tryz.lays260 with } ⟨by kernel_rfl, by kernel_rfl, by kernel_rfl, by kernel_rfl, by kernel_rfl, by kernel_rfl, by kernel_rfl⟩ (Lib.laidMet.reads hL (.tail _ (.head _))) (Lib.laidMet.reads hL (.head _))
  have hval : ∀ (j : Nat) t v, Tryz.f4.params[j]? = some t → args[j]? = some v → Value.okWide Tryz.prog W .any base t v := hval0
  have hW' := hW
  obtain ⟨p, q, hA0, hV, rfl, _, _⟩ := hW
  have hA : DataW.TrodAll enc Tryz.prog W 0 (fun _ => true) true Tryz.f4.params.toList args.toList ds p := hA0
  rw [Tryz.params4] at hA hval
  obtain ⟨v0, vs0, d0, ds0, p0, q0, hargs, rfl, rfl, h0, r0⟩ := trodAll_cons hA
  obtain ⟨rfl, rfl, rfl⟩ := trodAll_nil r0
  obtain rfl : args = #[v0] := by cases args; simp_all
  obtain ⟨rfl, rfl⟩ := trodVars_none hV
  obtain ⟨x0, va0, vk0, rfl, nd0⟩ := open_node (hval 0 26 v0 rfl rfl) h0
  clear hA0 hval0
  refine (walk_TreePrints x0 va0 vk0 W nd0 hU).mono fun e W' ⟨he, hb⟩ => ?_
  subst he
  exact ⟨_, rfl, law_post (by kernel_rfl) rfl rfl rfl hW' hb⟩
theorem said_TreePrints : Rows.TreePrintsSaid :=
  OpenClaim.holds_of_cond 4 Tryz.f4 rfl rfl rfl rfl rfl rfl rfl ⟨rfl, rfl, rfl, rfl, rfl⟩ rfl rfl rfl rfl rfl (by kernel_rfl) Tryz.func4 (by kernel_rfl)
    (of_decide_eq_true (by kernel_rfl)) (by unfold Func.isWrapper; first | (rw [if_pos (by decide +kernel)]; kernel_rfl) | (rw [if_neg (by decide +kernel)]; exact ⟨rfl, rfl⟩))
    (fun os started H enc _ F => by rw [OpenClaim.pre_eq_preRow]; exact lifted_TreePrints os started H enc F)
set_option maxRecDepth 100000 in
theorem plain_TreePrints (f : FuncId) (fn : Func) (hf : Tryz.pinned.checked.prog.funcNamed "pomace/pomacelaw03.TreePrints" = some f) (hfn : Tryz.pinned.checked.prog.funcs[f]? = some fn) :
    true = Tryz.pinned.checked.prog.looks [] ∧ ∀ (j : Nat) t, fn.params[j]? = some t → Tryz.pinned.checked.prog.wantsStandIn t = false := by
  obtain rfl : f = 4 := Option.some.inj ((show Tryz.prog.funcNamed "pomace/pomacelaw03.TreePrints" = some 4 by kernel_rfl).symm.trans hf) |>.symm
  obtain rfl : fn = Tryz.f4 := (Option.some.inj (Tryz.func4.symm.trans hfn)).symm
  refine ⟨by kernel_rfl, fun j t ht => ?_⟩
  rw [Tryz.params4] at ht
  have h := Array.mem_of_getElem? ht
  simp only [List.mem_toArray, List.mem_cons, List.not_mem_nil, or_false] at h
  rcases h with rfl
  all_goals first
    | exact (show Tryz.prog.wantsStandIn 26 = false by kernel_rfl)

/-- the statement of TreePrints: its card -/
theorem proved_TreePrints : Rows.TreePrintsCardSaid :=
  Claim7.holds_tied_plain_at .later [] _ _ _ _ said_TreePrints (fun _ h => by cases h) (by kernel_rfl) (fun _ h => by cases h) treePrints_row_tie rfl ⟨rfl, rfl⟩ (by kernel_rfl) rfl plain_TreePrints (by kernel_rfl)
end
end Go.Proofs.YtpbkidmdfibaoaaGreatDoor
