/-
  Layer 5: the walk of BoundsSame. Own work.
-/
import Derived.Test.YtnghagikchffiaaDoorSame5b
import Derived.Deep.Cut
import Derived.Deep.CutRange
namespace Go.Proofs.YtnghagikchffiaaDoor
set_option linter.unusedVariables false
set_option linter.unusedSimpArgs false
open Go.RowKit

theorem RdI.first {w : World} {pa : Option Addr} {pc : Nat} {l : List Iv} (h : RdI w (.slice pa l.length pc) l) (h0 : 1 ≤ l.length) : RdI w (.slice pa (l.take 1).length pc) (l.take 1) ∧ 1 ≤ pc := by
  rcases h with ⟨_, rfl⟩ | ⟨a, cap, h1, h2, h3, h4⟩
  · simp at h0
  · cases h1
    refine ⟨.inr ⟨a, pc, rfl, by rw [List.length_take]; omega, h3, fun i p hp c u hu => ?_⟩, by omega⟩
    rw [List.getElem?_take] at hp
    split at hp
    · exact h4 i p hp c u hu
    · cases hp
theorem some_one {hard : Bool} {l : List Iv} {a b c : ByteArray} (h1 : cmpB a.data.toList b.data.toList ≤ 0) (h2 : cmpB b.data.toList c.data.toList ≤ 0) (ha : hasB true (l.take 1) a = true) (hc : hasB true (l.take 1) c = true) : hasB true (l.take 1) b = true ∧ hasB hard l b = true := ⟨(one_between h1 h2 ha hc).1, (one_between h1 h2 ha hc).2 hard⟩
theorem keepA {w1 w2 : World} (hb : Below w1.heap.size w1 w2) {A : Addr} {x : Value} (h : w1.cell? A = some x) : w2.cell? A = some x := (hb.cell (World.block_lt_of_cell? w1 _ h)).trans h
theorem cell_setCell_far {w : World} {A : Addr} (p : Addr) (v : Value) (h : p.block ≠ A.block) : (w.setCell p v).cell? A = w.cell? A := World.cell?_setCell_far w p A v h
theorem le_dec (x : Int) (h : x ≤ 0) : decide (x ≤ 0) = true := decide_eq_true h
set_option maxRecDepth 100000 in
set_option maxHeartbeats 2000000 in
theorem walk_Same0 (hard : Bool) (ver : ByteArray) (pa : Option Addr) (pc : Nat) (l : List Iv) (a b c : ByteArray) (ha : a.size ≤ 9223372036854775807) (hb : b.size ≤ 9223372036854775807) (hc : c.size ≤ 9223372036854775807) (w : World) (hr : RdI w (.slice pa l.length pc) l)
    (hlb : (l.length : Int) ≤ 9223372036854775807)
    (hrc : ∀ s t : ByteArray, s.size ≤ 100000 → t.size ≤ 100000 → ∀ w, Calls Tryd.prog 21 #[.string s, .string t] w fun e w' => e = .returned (.int .i64 (cmpB s.data.toList t.data.toList)) ∧ Below w.heap.size w w')
    (hli : ∀ w', Below w.heap.size w w' → Calls Tryd.prog 14 #[.agg #[.bool hard, .string ver, .slice pa l.length pc]] w' fun e w2 => ∃ bb, e = .returned (.bool bb) ∧ (bb = true → ∀ p ∈ l, smallI p) ∧ Below w'.heap.size w' w2)
    (hlv : ∀ w', Below w.heap.size w w' → Calls Tryd.prog 13 #[] w' fun e w2 => e = .returned (.bool true) ∧ Below w'.heap.size w' w2) :
    Calls Tryd.prog 7 #[.agg #[.bool hard, .string ver, .slice pa l.length pc], .agg #[.string a, .string b, .string c]] w fun e w' => e = .returned (.bool true) ∧ Below w.heap.size w w' := by
  have C1 := Lib.hid (fun w => cut_eq a ha w)
  have C2 := Lib.hid (fun w => cut_eq b hb w)
  have C3 := Lib.hid (fun w => cut_eq c hc w)
  have z1 := cutS_size a
  have z2 := cutS_size b
  have z3 := cutS_size c
  have HRC := Lib.hid hrc
  have HLI := Lib.hid hli
  have HLV := Lib.hid hlv
  have HR := Lib.hid hr
  have hst : Two3 w ((w.alloc (.cells #[.bool hard, .string ver, .slice pa l.length pc] 25)).alloc (.cells #[.string a, .string b, .string c] 39)) w.heap.size (w.heap.size + 1) (.bool hard) (.string ver) (.slice pa l.length pc) (.string a) (.string b) (.string c) :=
    ⟨by simp [go_sem], by simp [go_sem], by simp [go_sem], by simp [go_sem], by simp [go_sem], by simp [go_sem], ((Below.refl w.heap.size w).alloc (Nat.le_refl _) _).alloc (by simp) _⟩
  obtain ⟨a0, a1, a2, a3, a4, a5, a6⟩ := hst
  clear hrc hli hlv hr
  go_enter Tryd.func7, Tryd.ntmps7
  go_wp2_with fail
  generalize ((w.alloc (.cells #[.bool hard, .string ver, .slice pa l.length pc] 25)).alloc (.cells #[.string a, .string b, .string c] 39)) = w1 at a0 a1 a2 a3 a4 a5 a6 ⊢
  go_region_held3 (fun w' => w'.cell? ⟨w.heap.size, 0, none⟩ = some (.bool hard) ∧ w'.cell? ⟨w.heap.size, 1, none⟩ = some (.string ver) ∧ w'.cell? ⟨w.heap.size, 2, none⟩ = some (.slice pa l.length pc) ∧ w'.cell? ⟨w.heap.size + 1, 0, none⟩ = some (.string a) ∧ w'.cell? ⟨w.heap.size + 1, 1, none⟩ = some (.string b) ∧ w'.cell? ⟨w.heap.size + 1, 2, none⟩ = some (.string c) ∧ Below w.heap.size w w')
    (first | exact ⟨a0, a1, a2, a3, a4, a5, a6.drew⟩ | (with_reducible exact two3_d (by assumption)) | (with_reducible assumption))
    (first
      | (go_at_call 9; first | (with_reducible refine (C1.out _).mono ?_; rintro e wq ⟨rfl, rfl⟩) | (with_reducible refine (C2.out _).mono ?_; rintro e wq ⟨rfl, rfl⟩) | (with_reducible refine (C3.out _).mono ?_; rintro e wq ⟨rfl, rfl⟩)))
  obtain ⟨b0, b1, b2, b3, b4, b5, b6⟩ := two3_id (by assumption)
  go_wp2_with fail
  refine (HLI.out _ b6).mono ?_
  rintro e w3 ⟨bb, rfl, hsm, hb3⟩
  have hkeep := fun {A : Addr} {x : Value} (hx : _ = some x) => (hb3.cell (World.block_lt_of_cell? _ A hx)).trans hx
  have c0 := hkeep b0
  have c1 := hkeep b1
  have c2 := hkeep b2
  have c3 := hkeep b3
  have c4 := hkeep b4
  have c5 := hkeep b5
  have HB3 := Lib.hid (b6.trans (hb3.mono b6.size))
  clear hkeep b0 b1 b2 b3 b4 b5 b6 hb3 a0 a1 a2 a3 a4 a5 a6
  cases bb
  · clear hsm
    go_wp2_with fail
    refine (HLV.out _ HB3.out).mono ?_
    rintro e w4 ⟨rfl, hb4⟩
    go_wp2
    go_ret
    exact ⟨rfl, HB3.out.trans (hb4.mono HB3.out.size)⟩
  have hsm := hsm rfl
  generalize cutS a = A at z1 C1 ⊢
  generalize cutS b = B at z2 C2 ⊢
  generalize cutS c = C at z3 C3 ⊢
  have HAS := Lib.hid (fun (v : ByteArray) (hv : v.size ≤ 300) w' (hb : Below w.heap.size w w') => has_at (ver := ver) (b := hasB hard l v) rfl hsm (by omega) w' (HR.out.below hb (Nat.le_refl _)))
  have HSM := Lib.hid hsm
  have HCM := Lib.hid (fun (u v : ByteArray) (hu : u.size ≤ 300) (hv : v.size ≤ 300) w' => HRC.out u v (by omega) (by omega) w')
  have hbb := HB3.out
  have HSAME := Lib.hid (has_same (hard := hard) (l := l) (a := A) (b := B))
  have HONE := Lib.hid (some_one (hard := hard) (l := l) (a := A) (b := B) (c := C))
  have HAB := Lib.hid (HCM.out A B z1 z2)
  have HBC := Lib.hid (HCM.out B C z2 z3)
  have HHA := Lib.hid (HAS.out A z1)
  have HHB := Lib.hid (HAS.out B z2)
  generalize cmpB A.data.toList B.data.toList = x at HAB HSAME HONE
  generalize cmpB B.data.toList C.data.toList = y at HBC HONE
  generalize hasB hard l A = hA at HHA HSAME
  generalize hasB hard l B = hB at HHB HSAME HONE
  clear hsm
  go_upto_region 4 with fail
  go_cut [35] from 23 to 86 (fun t wx => t = .bool false ∧ Two3 w wx w.heap.size (w.heap.size + 1) (.bool hard) (.string ver) (.slice pa l.length pc) (.string a) (.string b) (.string c))
  case first =>
    by_cases hx0 : x = 0
    · have he := HSAME.out hx0
      subst he
      have hxb : (x == 0) = true := by rw [hx0]; rfl
      clear hx0 HSAME HONE
      cases hA
      all_goals
        go_region_held3 (fun w' => w'.cell? ⟨w.heap.size, 0, none⟩ = some (.bool hard) ∧ w'.cell? ⟨w.heap.size, 1, none⟩ = some (.string ver) ∧ w'.cell? ⟨w.heap.size, 2, none⟩ = some (.slice pa l.length pc) ∧ w'.cell? ⟨w.heap.size + 1, 0, none⟩ = some (.string a) ∧ w'.cell? ⟨w.heap.size + 1, 1, none⟩ = some (.string b) ∧ w'.cell? ⟨w.heap.size + 1, 2, none⟩ = some (.string c) ∧ Below w.heap.size w w')
          (first | exact ⟨c0, c1, c2, c3, c4, c5, hbb.drew⟩ | (with_reducible exact two3_d (by assumption)) | (with_reducible exact two3_k (by assumption) (by assumption)))
          (first
        | (go_at_call 21; with_reducible refine (HAB.out _).mono ?_; rintro e wq ⟨rfl, hbq⟩)
        | (go_at_call 17; first | (with_reducible refine (HHA.out _ (two3_b (by assumption))).mono ?_; rintro e wq ⟨rfl, hbq⟩) | (with_reducible refine (HHB.out _ (two3_b (by assumption))).mono ?_; rintro e wq ⟨rfl, hbq⟩)))
        obtain ⟨b0, b1, b2, b3, b4, b5, b6⟩ := two3_id (by assumption)
        go_wp2_with fail
        go_meet
        exact ⟨rfl, b0, b1, b2, b3, b4, b5, b6⟩
    · have hxb : (x == 0) = false := by simp [hx0]
      clear hx0 HSAME HONE
      refine wp_region_held_drew (S := (fun w' => w'.cell? ⟨w.heap.size, 0, none⟩ = some (.bool hard) ∧ w'.cell? ⟨w.heap.size, 1, none⟩ = some (.string ver) ∧ w'.cell? ⟨w.heap.size, 2, none⟩ = some (.slice pa l.length pc) ∧ w'.cell? ⟨w.heap.size + 1, 0, none⟩ = some (.string a) ∧ w'.cell? ⟨w.heap.size + 1, 1, none⟩ = some (.string b) ∧ w'.cell? ⟨w.heap.size + 1, 2, none⟩ = some (.string c) ∧ Below w.heap.size w w')) (by kernel_rfl) (by (try dsimp only); (first | exact ⟨c0, c1, c2, c3, c4, c5, hbb.drew⟩ | (with_reducible exact two3_d (by assumption)) | (with_reducible exact two3_k (by assumption) (by assumption)))) (fun hHeld => ?_)
      refine wpAnyH_take (i := 0) (v := ?_) (by (simp only [List.getElem?_toArray, List.getElem?_cons_succ, List.getElem?_cons_zero]; rfl)) (by kernel_rfl) (by kernel_rfl) (by kernel_rfl) (by intro _ _ _ h; exact h) (Or.inl ⟨by rfl, ?_⟩) (by assumption) ?_
      rotate_left
      · (intro w hSw; (try dsimp only at hSw); go_simp; try (with_reducible rfl))
      simp only [Act.put, List.setIfInBounds_toArray, List.set_cons_zero, List.set_cons_succ]
      refine wpAnyH_take (i := 1) (v := ?_) (by (simp only [List.getElem?_toArray, List.getElem?_cons_succ, List.getElem?_cons_zero]; rfl)) (by kernel_rfl) (by kernel_rfl) (by kernel_rfl) (by intro _ _ _ h; exact h) (Or.inl ⟨by rfl, ?_⟩) (by assumption) ?_
      rotate_left
      · (intro w hSw; (try dsimp only at hSw); go_simp; try (with_reducible rfl))
      simp only [Act.put, List.setIfInBounds_toArray, List.set_cons_zero, List.set_cons_succ]
      refine wpAnyH_ready (rs := [2]) (by kernel_rfl) (by simp) ?_
      refine AllReadyH.cons (by (simp only [List.getElem?_toArray, List.getElem?_cons_succ, List.getElem?_cons_zero]; rfl)) (fun K hK => ?_) AllReadyH.nil
      go_simp
      (go_at_call 21; with_reducible refine (HAB.out _).mono ?_; rintro e wq ⟨rfl, hbq⟩; go_wp2_with fail)
      refine hK.out _ _ (by (try dsimp only); (first | exact ⟨c0, c1, c2, c3, c4, c5, hbb.drew⟩ | (with_reducible exact two3_d (by assumption)) | (with_reducible exact two3_k (by assumption) (by assumption)))) (fun hHeld => ?_)
      clear hK K
      try simp only [Act.put, List.setIfInBounds_toArray, List.set_cons_zero, List.set_cons_succ]
      refine wpAnyH_take (i := 3) (v := ?_) (by (simp only [List.getElem?_toArray, List.getElem?_cons_succ, List.getElem?_cons_zero]; rfl)) (by kernel_rfl) (by kernel_rfl) (by kernel_rfl) (by intro _ _ _ h; exact h) (Or.inl ⟨by rfl, ?_⟩) (by assumption) ?_
      rotate_left
      · (intro w hSw; (try dsimp only at hSw); go_simp; try (with_reducible rfl))
      simp only [Act.put, List.setIfInBounds_toArray, List.set_cons_zero, List.set_cons_succ]
      refine wpAnyH_take (i := 4) (v := ?_) (by (simp only [List.getElem?_toArray, List.getElem?_cons_succ, List.getElem?_cons_zero]; rfl)) (by kernel_rfl) (by kernel_rfl) (by kernel_rfl) (by intro _ _ _ h; exact h) (Or.inl ⟨by rfl, ?_⟩) (by assumption) ?_
      rotate_left
      · (intro w hSw; (try dsimp only at hSw); go_simp; try (with_reducible rfl))
      simp only [Act.put, List.setIfInBounds_toArray, List.set_cons_zero, List.set_cons_succ]
      refine wpAnyH_take (i := 5) (v := undef) (by (simp only [List.getElem?_toArray, List.getElem?_cons_succ, List.getElem?_cons_zero]; rfl)) (by kernel_rfl) (by kernel_rfl) (by kernel_rfl) (by intro _ _ _ h; exact h) (Or.inr ⟨by rfl, rfl⟩) (by assumption) ?_
      simp only [Act.put, List.setIfInBounds_toArray, List.set_cons_zero, List.set_cons_succ]
      refine wpAnyH_take (i := 6) (v := undef) (by (simp only [List.getElem?_toArray, List.getElem?_cons_succ, List.getElem?_cons_zero]; rfl)) (by kernel_rfl) (by kernel_rfl) (by kernel_rfl) (by intro _ _ _ h; exact h) (Or.inr ⟨by rfl, rfl⟩) (by assumption) ?_
      simp only [Act.put, List.setIfInBounds_toArray, List.set_cons_zero, List.set_cons_succ]
      refine wpAnyH_take (i := 7) (v := undef) (by (simp only [List.getElem?_toArray, List.getElem?_cons_succ, List.getElem?_cons_zero]; rfl)) (by kernel_rfl) (by kernel_rfl) (by kernel_rfl) (by intro _ _ _ h; exact h) (Or.inr ⟨by rfl, rfl⟩) (by assumption) ?_
      simp only [Act.put, List.setIfInBounds_toArray, List.set_cons_zero, List.set_cons_succ]
      refine wpAnyH_take (i := 8) (v := undef) (by (simp only [List.getElem?_toArray, List.getElem?_cons_succ, List.getElem?_cons_zero]; rfl)) (by kernel_rfl) (by kernel_rfl) (by kernel_rfl) (by intro _ _ _ h; exact h) (Or.inr ⟨by rfl, rfl⟩) (by assumption) ?_
      simp only [Act.put, List.setIfInBounds_toArray, List.set_cons_zero, List.set_cons_succ]
      refine wpAnyH_take (i := 9) (v := undef) (by (simp only [List.getElem?_toArray, List.getElem?_cons_succ, List.getElem?_cons_zero]; rfl)) (by kernel_rfl) (by kernel_rfl) (by kernel_rfl) (by intro _ _ _ h; exact h) (Or.inr ⟨by rfl, rfl⟩) (by assumption) ?_
      simp only [Act.put, List.setIfInBounds_toArray, List.set_cons_zero, List.set_cons_succ]
      refine wpAnyH_take (i := 10) (v := undef) (by (simp only [List.getElem?_toArray, List.getElem?_cons_succ, List.getElem?_cons_zero]; rfl)) (by kernel_rfl) (by kernel_rfl) (by kernel_rfl) (by intro _ _ _ h; exact h) (Or.inr ⟨by rfl, rfl⟩) (by assumption) ?_
      simp only [Act.put, List.setIfInBounds_toArray, List.set_cons_zero, List.set_cons_succ]
      refine wpAnyH_take (i := 11) (v := undef) (by (simp only [List.getElem?_toArray, List.getElem?_cons_succ, List.getElem?_cons_zero]; rfl)) (by kernel_rfl) (by kernel_rfl) (by kernel_rfl) (by intro _ _ _ h; exact h) (Or.inr ⟨by rfl, rfl⟩) (by assumption) ?_
      simp only [Act.put, List.setIfInBounds_toArray, List.set_cons_zero, List.set_cons_succ]
      refine wpAnyH_take (i := 12) (v := ?_) (by (simp only [List.getElem?_toArray, List.getElem?_cons_succ, List.getElem?_cons_zero]; rfl)) (by kernel_rfl) (by kernel_rfl) (by kernel_rfl) (by intro _ _ _ h; exact h) (Or.inl ⟨by rfl, ?_⟩) (by assumption) ?_
      rotate_left
      · (intro w hSw; (try dsimp only at hSw); go_simp; try (with_reducible rfl))
      simp only [Act.put, List.setIfInBounds_toArray, List.set_cons_zero, List.set_cons_succ]
      refine wpAnyH_done (by kernel_rfl) ?_ _
      obtain ⟨b0, b1, b2, b3, b4, b5, b6⟩ := two3_id (by assumption)
      go_wp2_with fail
      go_meet
      exact ⟨rfl, b0, b1, b2, b3, b4, b5, b6⟩
  case rest =>
    obtain ⟨rfl, b0, b1, b2, b3, b4, b5, b6⟩ := hcut
    have HB6 := Lib.hid b6
    clear b3 b4 b5 b6 c0 c1 c2 c3 c4 c5 hbb HSAME HAS HCM
    go_upto_region 6 with fail
    go_cut [8] from 36 to 86 (fun t wx => ∃ (D : Nat) (v0 : ByteArray), t = .pointer (some ⟨D, 0, none⟩) ∧ w.heap.size < D ∧ wx.frozen? ⟨D, 2, none⟩ = false ∧ Two3 w wx w.heap.size D (.bool hard) (.string ver) (.slice pa l.length pc) (.bool true) (.string v0) (.slice none 0 0))
    case first =>
      go_wp2_with fail
      go_meet
      have hz : w.heap.size < wc.heap.size := World.block_lt_of_cell? wc _ b0
      have hbA := (Below.refl wc.heap.size wc).alloc (Nat.le_refl _) (.cells #[.bool true, .string { data := #[] }, .slice none 0 0] 25)
      exact ⟨wc.heap.size, ⟨#[]⟩, rfl, hz, by simp [go_sem], keepA hbA b0, keepA hbA b1, keepA hbA b2, by simp [go_sem], by simp [go_sem], by simp [go_sem], HB6.out.trans (hbA.mono HB6.out.size)⟩
    case rest =>
      obtain ⟨D, v0, rfl, hD, hfz, d0, d1, d2, d3, d4, d5, d6⟩ := hcut
      clear b0 b1 b2 HB6
      have HD6 := Lib.hid d6
      clear d6
      obtain ⟨bl, hbl⟩ : ∃ bl, bl = decide (0 < l.length) := ⟨_, rfl⟩
      have HBL := Lib.hid hbl
      go_upto_region 7 with fail
      go_cut [40] from 37 to 86 (fun t wx => t = .bool bl ∧ wx = wc)
      case first =>
        go_wp2_with fail
        go_meet
        exact ⟨congrArg Value.bool HBL.out.symm, rfl⟩
      case rest =>
      obtain ⟨rfl, rfl⟩ := hcut
      clear hbl
      go_upto_if 40 with fail
      go_cut [] from 37 to 86 (fun wx => ∃ (qa : Option Addr) (qc : Nat), RdI w (.slice qa (l.take 1).length qc) (l.take 1) ∧ Two3 w wx w.heap.size D (.bool hard) (.string ver) (.slice pa l.length pc) (.bool true) (.string v0) (.slice qa (l.take 1).length qc))
      case first =>
        cases bl
        · have hl0 : l.length = 0 := by have := of_decide_eq_false HBL.out.symm; omega
          have he : l.take 1 = [] := by rw [List.length_eq_zero_iff.1 hl0]; rfl
          have HE := Lib.hid he
          clear he hl0
          go_wp2_with fail
          go_meet
          refine ⟨none, 0, ?_, d0, d1, d2, d3, d4, ?_, HD6.out⟩
          · rw [HE.out]; exact .inl ⟨rfl, rfl⟩
          · rw [HE.out]; exact d5
        · have hl1 : 1 ≤ l.length := by have := of_decide_eq_true HBL.out.symm; omega
          obtain ⟨hr1, hp1⟩ := HR.out.first hl1
          have HR1 := Lib.hid hr1
          obtain ⟨a', rfl⟩ : ∃ a', pa = some a' := by
            rcases HR.out with ⟨_, rfl⟩ | ⟨a', _, h, _⟩
            · simp at hl1
            · cases h; exact ⟨_, rfl⟩
          have hlI : (0 : Int) < l.length := by omega
          have hpI : (1 : Int) ≤ pc := by omega
          have ht1 : (l.take 1).length = 1 := by rw [List.length_take]; omega
          have HT1 := Lib.hid ht1
          clear hr1 ht1
          have hD' : D ≠ w.heap.size := by omega
          go_wp2_with fail
          go_meet
          refine ⟨some a', pc, HR1.out, (cell_setCell_far _ _ hD').trans d0, (cell_setCell_far _ _ hD').trans d1, (cell_setCell_far _ _ hD').trans d2, ?_, ?_, ?_, HD6.out.setCell (by simp only; omega) _⟩
          · simpa [go_sem] using d3
          · simpa [go_sem] using d4
          · rw [HT1.out]
            exact World.cell?_setCell_same' wc _ _ (by rw [d5]; rfl)
      case rest =>
        obtain ⟨qa, qc, hr1, e0, e1, e2, e3, e4, e5, e6⟩ := hcut
        clear d0 d1 d2 d3 d4 d5 HD6 hfz
        generalize (l.take 1).length = n1 at hr1 e5
        have HE6 := Lib.hid e6
        clear e6
        have HO := Lib.hid (fun (v : ByteArray) (hv : v.size ≤ 300) w' (hb : Below w.heap.size w w') => has_at (hard := true) (ver := v0) (b := hasB true (l.take 1) v) rfl (fun p hp => HSM.out p (List.mem_of_mem_take hp)) (by omega) w' (hr1.below hb (Nat.le_refl _)))
        have HOA := Lib.hid (HO.out A z1)
        have HOB := Lib.hid (HO.out B z2)
        have HOC := Lib.hid (HO.out C z3)
        clear HO hr1
        generalize hasB true (l.take 1) A = oa at HOA HONE
        generalize hasB true (l.take 1) B = ob at HOB HONE
        generalize hasB true (l.take 1) C = oc at HOC HONE
        go_upto_region 9 with fail
        go_cut [9] from 45 to 86 (fun t wx => ∃ bt : Bool, t = .bool bt ∧ (bt = true → x ≤ 0 ∧ y ≤ 0) ∧ Two3 w wx w.heap.size D (.bool hard) (.string ver) (.slice pa l.length pc) (.bool true) (.string v0) (.slice qa n1 qc))
        case first =>
          have HT := Lib.hid (show Two3 w wc w.heap.size D (.bool hard) (.string ver) (.slice pa l.length pc) (.bool true) (.string v0) (.slice qa n1 qc) from ⟨e0, e1, e2, e3, e4, e5, HE6.out⟩)
          clear e0 e1 e2 e3 e4 e5
          by_cases hx : x ≤ 0
          · go_wp2_with fail
            refine (HAB.out _).mono ?_
            rintro e wq ⟨rfl, hbq⟩
            have HQ := Lib.hid hbq
            clear hbq
            go_wp2_with fail
            refine (HBC.out _).mono ?_
            rintro e wq2 ⟨rfl, hbq2⟩
            have HQ2 := Lib.hid hbq2
            clear hbq2
            go_wp2_with fail
            go_meet
            exact ⟨decide (y ≤ 0), rfl, fun h => ⟨hx, of_decide_eq_true h⟩, two3_k (two3_k HT.out HQ.out) HQ2.out⟩
          · have hx' : 0 < x := by omega
            go_wp2_with fail
            refine (HAB.out _).mono ?_
            rintro e wq ⟨rfl, hbq⟩
            have HQ := Lib.hid hbq
            clear hbq
            go_wp2_with fail
            go_meet
            exact ⟨false, rfl, fun h => Bool.noConfusion h, two3_k HT.out HQ.out⟩
        case rest =>
          obtain ⟨bt, rfl, hbt, f0, f1, f2, f3, f4, f5, f6⟩ := hcut
          have HBT := Lib.hid hbt
          have HF6 := Lib.hid f6
          clear e0 e1 e2 e3 e4 e5 HE6 hbt f6
          cases bt
          · clear HBT HONE
            go_wp2_with fail
            refine (HLV.out _ HF6.out).mono ?_
            rintro e wz ⟨rfl, hbz⟩
            go_wp2
            go_ret
            exact ⟨rfl, (HF6.out).trans (hbz.mono (HF6.out).size)⟩
          have hxy := HBT.out rfl
          have HONE2 := Lib.hid (HONE.out hxy.1 hxy.2)
          clear hxy HBT HONE
          have HF := Lib.hid (show Two3 w _ w.heap.size D (.bool hard) (.string ver) (.slice pa l.length pc) (.bool true) (.string v0) (.slice qa n1 qc) from ⟨f0, f1, f2, f3, f4, f5, HF6.out⟩)
          go_wp2_with fail
          refine (HOA.out _ HF6.out).mono ?_
          rintro e w5 ⟨rfl, hb5⟩
          have HF2 := Lib.hid (two3_k HF.out hb5)
          clear hb5 f0 f1 f2 f3 f4 f5 HF
          cases oa
          · clear HONE2
            go_wp2_with fail
            refine (HLV.out _ HF2.out.2.2.2.2.2.2).mono ?_
            rintro e wz ⟨rfl, hbz⟩
            go_wp2
            go_ret
            exact ⟨rfl, (HF2.out.2.2.2.2.2.2).trans (hbz.mono (HF2.out.2.2.2.2.2.2).size)⟩
          obtain ⟨f0, f1, f2, f3, f4, f5, f6⟩ := two3_id HF2.out
          clear f6
          go_wp2_with fail
          refine (HOC.out _ HF2.out.2.2.2.2.2.2).mono ?_
          rintro e w6 ⟨rfl, hb6⟩
          have HF3 := Lib.hid (two3_k HF2.out hb6)
          clear hb6 f0 f1 f2 f3 f4 f5 HF2
          cases oc
          · clear HONE2
            go_wp2_with fail
            refine (HLV.out _ HF3.out.2.2.2.2.2.2).mono ?_
            rintro e wz ⟨rfl, hbz⟩
            go_wp2
            go_ret
            exact ⟨rfl, (HF3.out.2.2.2.2.2.2).trans (hbz.mono (HF3.out.2.2.2.2.2.2).size)⟩
          obtain ⟨rfl, rfl⟩ := HONE2.out (by trivial) (by trivial)
          clear HONE2
          obtain ⟨f0, f1, f2, f3, f4, f5, f6⟩ := two3_id HF3.out
          clear f6
          go_wp2_with fail
          refine (HOB.out _ HF3.out.2.2.2.2.2.2).mono ?_
          rintro e w7 ⟨rfl, hb7⟩
          have HF4 := Lib.hid (two3_k HF3.out hb7)
          clear hb7 f0 f1 f2 f3 f4 f5 HF3
          obtain ⟨f0, f1, f2, f3, f4, f5, f6⟩ := two3_id HF4.out
          clear f6
          cases hard
          · clear HHB HHA
            go_wp2_with fail
            refine (HLV.out _ HF4.out.2.2.2.2.2.2).mono ?_
            rintro e wz ⟨rfl, hbz⟩
            go_wp2
            go_ret
            exact ⟨rfl, (HF4.out.2.2.2.2.2.2).trans (hbz.mono (HF4.out.2.2.2.2.2.2).size)⟩
          go_wp2_with fail
          refine (HHB.out _ HF4.out.2.2.2.2.2.2).mono ?_
          rintro e w8 ⟨rfl, hb8⟩
          have HF5 := Lib.hid (two3_k HF4.out hb8)
          clear hb8 f0 f1 f2 f3 f4 f5 HF4
          go_wp2_with fail
          refine (HLV.out _ HF5.out.2.2.2.2.2.2).mono ?_
          rintro e wz ⟨rfl, hbz⟩
          go_wp2
          go_ret
          exact ⟨rfl, (HF5.out.2.2.2.2.2.2).trans (hbz.mono (HF5.out.2.2.2.2.2.2).size)⟩
end Go.Proofs.YtnghagikchffiaaDoor
