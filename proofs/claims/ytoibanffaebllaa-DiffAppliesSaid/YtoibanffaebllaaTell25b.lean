/-
  Layer 25: the lines of diff.Tell of two edits such as the document's example has. Own work.
-/
import Derived.Test.YtoibanffaebllaaTell25
namespace Go.Proofs.Ytoibanffaebllaa
set_option linter.unusedVariables false
set_option linter.unusedSimpArgs false
open Go.RowKit

def exKey (x : ByteArray) : K4 := ⟨⟨#[103]⟩, x, ⟨#[106, 97, 114]⟩, ⟨#[]⟩⟩
def exE0 (x u v : ByteArray) : Ed := ⟨exKey x, true, true, exPin x u, exPin x v⟩
def exE1 (y z : ByteArray) : Ed := ⟨exKey y, false, true, zP, exPin y z⟩
def keyB (x : ByteArray) : ByteArray := printKey ⟨#[103]⟩ x ⟨#[106, 97, 114]⟩ ⟨#[]⟩
def exL0 (x u v : ByteArray) : ByteArray := joinB [⟨#[126]⟩, keyB x, tellB u, ⟨#[116, 111]⟩, tellB v]
def exL1 (y z : ByteArray) : ByteArray := joinB [⟨#[43]⟩, keyB y, tellB z]
theorem tellB_len (v : ByteArray) (h : v.size ≤ 1000) : (tellB v).size ≤ 1010 := by
  have : v.data.toList.length = v.size := by simp
  have : wComp.size = 7 := rfl
  show (Lib.join _ [32]).length ≤ _
  simp [Lib.join, List.intercalate]
  omega
theorem keyB_len (v : ByteArray) (h : v.size ≤ 1000) : (keyB v).size ≤ 1010 := by
  unfold keyB printKey
  rw [if_pos (show (⟨#[]⟩ : ByteArray).size = 0 from rfl)]
  simp only [ByteArray.size_append]
  have e1 : (⟨#[103]⟩ : ByteArray).size = 1 := rfl
  have e2 : (⟨#[58]⟩ : ByteArray).size = 1 := rfl
  have e3 : (⟨#[106, 97, 114]⟩ : ByteArray).size = 3 := rfl
  omega
theorem keyB_any (x : ByteArray) (hx : x.size ≤ 1000) (w : World) : Calls Try.prog 42 #[.agg #[.string ⟨#[103]⟩, .string x, .string ⟨#[106, 97, 114]⟩, .string ⟨#[]⟩]] w fun e w' => e = .returned (.string (keyB x)) ∧ Below w.heap.size w w' :=
  PrintKey_any ⟨#[103]⟩ x ⟨#[106, 97, 114]⟩ ⟨#[]⟩ (by decide) (by omega) (by decide) (by decide) w
def TellP (l0 l1 : ByteArray) (w : World) (e : Ending) (w' : World) : Prop :=
  ∃ b cap, e = .returned (.slice (some ⟨b, 0, none⟩) 2 cap) ∧ 2 ≤ cap ∧ w'.cell? ⟨b, 0, none⟩ = some (.string l0) ∧ w'.cell? ⟨b, 1, none⟩ = some (.string l1) ∧ Below w.heap.size w w'
theorem str_info : (Try.prog.info? 9).map (fun i => (i.zero, i.size, i.bytes)) = some (some (.string .empty), 1, 16) := by kernel_rfl
set_option maxRecDepth 100000 in
set_option maxHeartbeats 4000000 in
theorem Tell_two (x u v y z : ByteArray) (hx : x.size ≤ 100) (hu : u.size ≤ 100) (hv : v.size ≤ 100) (hy : y.size ≤ 100) (hz : z.size ≤ 100) (v1 : Value) (w : World) (h1 : RdE w v1 [exE0 x u v, exE1 y z]) :
    Calls Try.prog 23 #[v1] w (TellP (exL0 x u v) (exL1 y z) w) := by
  obtain ⟨a1, c1, rfl⟩ := h1.shape
  have HR1 := Lib.hid h1
  have hk1 := fun w => keyB_any x (by omega) w
  have hk2 := fun w => keyB_any y (by omega) w
  have ht1 := fun w => tellPin_any x u (by omega) w
  have ht2 := fun w => tellPin_any x v (by omega) w
  have ht3 := fun w => tellPin_any y z (by omega) w
  unfold pnV exPin at ht1 ht2 ht3
  have n1 := keyB_len x (by omega)
  have n2 := keyB_len y (by omega)
  have n3 := tellB_len u (by omega)
  have n4 := tellB_len v (by omega)
  have n5 := tellB_len z (by omega)
  have hl0 : exL0 x u v = joinB [⟨#[126]⟩, keyB x, tellB u, ⟨#[116, 111]⟩, tellB v] := rfl
  have hl1 : exL1 y z = joinB [⟨#[43]⟩, keyB y, tellB z] := rfl
  generalize exL0 x u v = L0 at hl0 ⊢
  generalize exL1 y z = L1 at hl1 ⊢
  generalize keyB x = K0 at hk1 hl0 n1
  generalize keyB y = K1 at hk2 hl1 n2
  generalize tellB u = T0 at ht1 hl0 n3
  generalize tellB v = T1 at ht2 hl0 n4
  generalize tellB z = T2 at ht3 hl1 n5
  have hs0 := fun (w' : World) (bk : Nat) (h0 : w'.cell? ⟨bk, 0, none⟩ = some (.string ⟨#[126]⟩)) (h1 : w'.cell? ⟨bk, 1, none⟩ = some (.string K0)) (h2 : w'.cell? ⟨bk, 2, none⟩ = some (.string T0)) (h3 : w'.cell? ⟨bk, 3, none⟩ = some (.string ⟨#[116, 111]⟩)) (h4 : w'.cell? ⟨bk, 4, none⟩ = some (.string T1)) => spaced_any bk [⟨#[126]⟩, K0, T0, ⟨#[116, 111]⟩, T1] w' (fun j x hx => by
    match j with
    | 0 => simp at hx; subst hx; exact h0
    | 1 => simp at hx; subst hx; exact h1
    | 2 => simp at hx; subst hx; exact h2
    | 3 => simp at hx; subst hx; exact h3
    | 4 => simp at hx; subst hx; exact h4
    | j + 5 => simp at hx) (World.block_lt_of_cell? w' _ h0) (by simp) (by
      have : K0.data.toList.length = K0.size := by simp
      have : T0.data.toList.length = T0.size := by simp
      have : T1.data.toList.length = T1.size := by simp
      simp [Lib.join, List.intercalate]; omega) 5 rfl
  have hs1 := fun (w' : World) (bk : Nat) (h0 : w'.cell? ⟨bk, 0, none⟩ = some (.string ⟨#[43]⟩)) (h1 : w'.cell? ⟨bk, 1, none⟩ = some (.string K1)) (h2 : w'.cell? ⟨bk, 2, none⟩ = some (.string T2)) => spaced_any bk [⟨#[43]⟩, K1, T2] w' (fun j x hx => by
    match j with
    | 0 => simp at hx; subst hx; exact h0
    | 1 => simp at hx; subst hx; exact h1
    | 2 => simp at hx; subst hx; exact h2
    | j + 3 => simp at hx) (World.block_lt_of_cell? w' _ h0) (by simp) (by
      have : K1.data.toList.length = K1.size := by simp
      have : T2.data.toList.length = T2.size := by simp
      simp [Lib.join, List.intercalate]; omega) 3 rfl
  rw [← hl0] at hs0
  rw [← hl1] at hs1
  have HK1 := Lib.hid hk1
  have HK2 := Lib.hid hk2
  have HT1 := Lib.hid ht1
  have HT2 := Lib.hid ht2
  have HT3 := Lib.hid ht3
  have HS0 := Lib.hid hs0
  have HS1 := Lib.hid hs1
  clear h1 hk1 hk2 ht1 ht2 ht3 hs0 hs1 hl0 hl1 n1 n2 n3 n4 n5 hx hu hv hy hz
  have hlen : ([exE0 x u v, exE1 y z] : List Ed).length = 2 := rfl
  rw [hlen]
  rw [hlen] at HR1
  clear hlen
  go_enter Try.func23, Try.ntmps23
  go_wp2_with fail
  go_loopw [3, 9] (fun s i wr => ∃ k : Nat, k ≤ 2 ∧ i = .int .i64 k ∧ wr.ownsRow w.heap.size 9 1 s k ((([L0, L1] : List ByteArray).map Value.string).take k) ∧ Below w.heap.size w wr ∧ (k = 0 → s = .slice none 0 0)) (fun _ i _ => 2 - (intOf i).toNat)
  case atStart => exact ⟨0, by omega, rfl, World.ownsRow_nil _ _ _ _, Below.refl _ _, fun _ => rfl⟩
  case round =>
    obtain ⟨k, hk, rfl, hown, hb, hnil⟩ := hrel
    have HB := Lib.hid hb
    have HO := Lib.hid hown
    by_cases hlt : k < 2
    · have hki : (k : Int) < 2 := by omega
      have hk0 : (0 : Int) ≤ k := by omega
      have hcase : (k = 0 ∧ ([exE0 x u v, exE1 y z] : List Ed)[k]? = some (exE0 x u v)) ∨ (k = 1 ∧ ([exE0 x u v, exE1 y z] : List Ed)[k]? = some (exE1 y z)) := by
        match k, hlt with
        | 0, _ => exact .inl ⟨rfl, rfl⟩
        | 1, _ => exact .inr ⟨rfl, rfl⟩
      rcases hcase with ⟨hk00, hp⟩ | ⟨hk11, hp⟩
      · obtain ⟨b1, rfl, _, _, _, hc1⟩ := HR1.out.elem hp
        have h0 := RdE.atR hc1 hp hb (Nat.le_refl _)
        have H0 := Lib.hid h0
        obtain rfl := hnil hk00
        have HTK := Lib.hid (show (([L0, L1] : List ByteArray).map Value.string).take (k + 1) = (([L0, L1] : List ByteArray).map Value.string).take k ++ [.string L0] by subst hk00; rfl)
        have HK0 := Lib.hid hk00
        clear hc1 hp hown hk00 h0 hnil
        go_wp2_with (first
          | (refine wpList_load_ed rfl _ rfl _ rfl ⟨⟨⟨#[103]⟩, x, ⟨#[106, 97, 114]⟩, ⟨#[]⟩⟩, true, true, ⟨⟨#[103]⟩, x, ⟨#[106, 97, 114]⟩, ⟨#[]⟩, u, 1⟩, ⟨⟨#[103]⟩, x, ⟨#[106, 97, 114]⟩, ⟨#[]⟩, v, 1⟩⟩ H0.out ?_)
          | (refine wpList_store_ed rfl _ _ rfl _ rfl rfl ⟨⟨⟨#[103]⟩, x, ⟨#[106, 97, 114]⟩, ⟨#[]⟩⟩, true, true, ⟨⟨#[103]⟩, x, ⟨#[106, 97, 114]⟩, ⟨#[]⟩, u, 1⟩, ⟨⟨#[103]⟩, x, ⟨#[106, 97, 114]⟩, ⟨#[]⟩, v, 1⟩⟩ rfl ?_))
        generalize hVe : wr.heap.size = V
        have hP : EdP (wr.alloc (.cells #[.string ⟨#[103]⟩, .string x, .string ⟨#[106, 97, 114]⟩, .string ⟨#[]⟩, .bool true, .bool true, .string ⟨#[103]⟩, .string x, .string ⟨#[106, 97, 114]⟩, .string ⟨#[]⟩, .string u, .int .i64 1, .string ⟨#[103]⟩, .string x, .string ⟨#[106, 97, 114]⟩, .string ⟨#[]⟩, .string v, .int .i64 1] 50)) V ⟨⟨⟨#[103]⟩, x, ⟨#[106, 97, 114]⟩, ⟨#[]⟩⟩, true, true, ⟨⟨#[103]⟩, x, ⟨#[106, 97, 114]⟩, ⟨#[]⟩, u, 1⟩, ⟨⟨#[103]⟩, x, ⟨#[106, 97, 114]⟩, ⟨#[]⟩, v, 1⟩⟩ := by rw [← hVe]; exact heap_alloc_new wr _
        have hb1 : Below wr.heap.size wr (wr.alloc (.cells #[.string ⟨#[103]⟩, .string x, .string ⟨#[106, 97, 114]⟩, .string ⟨#[]⟩, .bool true, .bool true, .string ⟨#[103]⟩, .string x, .string ⟨#[106, 97, 114]⟩, .string ⟨#[]⟩, .string u, .int .i64 1, .string ⟨#[103]⟩, .string x, .string ⟨#[106, 97, 114]⟩, .string ⟨#[]⟩, .string v, .int .i64 1] 50)) := (Below.refl _ _).alloc (Nat.le_refl _) _
        generalize wr.alloc (.cells #[.string ⟨#[103]⟩, .string x, .string ⟨#[106, 97, 114]⟩, .string ⟨#[]⟩, .bool true, .bool true, .string ⟨#[103]⟩, .string x, .string ⟨#[106, 97, 114]⟩, .string ⟨#[]⟩, .string u, .int .i64 1, .string ⟨#[103]⟩, .string x, .string ⟨#[106, 97, 114]⟩, .string ⟨#[]⟩, .string v, .int .i64 1] 50) = w1 at hP hb1 ⊢
        have HP1 := Lib.hid hP
        have HB1 := Lib.hid hb1
        clear hP hb1 hVe
        go_wp2_with fail
        refine (HK1.out _).mono ?_
        rintro e w2 ⟨rfl, hb2⟩
        have hP2 : EdP w2 V ⟨⟨⟨#[103]⟩, x, ⟨#[106, 97, 114]⟩, ⟨#[]⟩⟩, true, true, ⟨⟨#[103]⟩, x, ⟨#[106, 97, 114]⟩, ⟨#[]⟩, u, 1⟩, ⟨⟨#[103]⟩, x, ⟨#[106, 97, 114]⟩, ⟨#[]⟩, v, 1⟩⟩ := (hb2.block V (Array.getElem?_eq_some_iff.1 HP1.out).1).trans HP1.out
        have HP2 := Lib.hid hP2
        have HB2 := Lib.hid (HB1.out.trans (hb2.mono HB1.out.size))
        obtain ⟨y0, y1, y2, y3, y4, y5, y6, y7, y8, y9, y10, y11, y12, y13, y14, y15, y16, y17⟩ := hP2.cells
        simp only at y0 y1 y2 y3 y4 y5 y6 y7 y8 y9 y10 y11 y12 y13 y14 y15 y16 y17
        clear hP2 hb2
        go_upto_region 6 with fail
        have hpu : PinR w2 ⟨V, 6, none⟩ ⟨⟨#[103]⟩, x, ⟨#[106, 97, 114]⟩, ⟨#[]⟩, u, 1⟩ := fun c q hq => by
          have h6 : c < 6 := by have := (List.getElem?_eq_some_iff.1 hq).1; simpa [pnCells] using this
          rw [show (⟨V, 6, none⟩ : Addr).add c = ⟨V, 6 + c, none⟩ from by unfold Addr.add; split <;> simp_all, cell_of_row w2 V (6 + c) _ _ (0, 0) HP2.out]
          match c, h6 with
          | 0, _ => exact hq
          | 1, _ => exact hq
          | 2, _ => exact hq
          | 3, _ => exact hq
          | 4, _ => exact hq
          | 5, _ => exact hq
        have hpv : PinR w2 ⟨V, 12, none⟩ ⟨⟨#[103]⟩, x, ⟨#[106, 97, 114]⟩, ⟨#[]⟩, v, 1⟩ := fun c q hq => by
          have h6 : c < 6 := by have := (List.getElem?_eq_some_iff.1 hq).1; simpa [pnCells] using this
          rw [show (⟨V, 12, none⟩ : Addr).add c = ⟨V, 12 + c, none⟩ from by unfold Addr.add; split <;> simp_all, cell_of_row w2 V (12 + c) _ _ (0, 0) HP2.out]
          match c, h6 with
          | 0, _ => exact hq
          | 1, _ => exact hq
          | 2, _ => exact hq
          | 3, _ => exact hq
          | 4, _ => exact hq
          | 5, _ => exact hq
        have HPU := Lib.hid hpu
        have HPV := Lib.hid hpv
        clear hpu hpv y0 y1 y2 y3 y4 y5 y6 y7 y8 y9 y10 y11 y12 y13 y14 y15 y16 y17
        have HBw := Lib.hid (HB.out.trans (HB2.out.mono HB.out.size))
        refine wp_region_held_drew (S := (fun w' => Below w2.heap.size w2 w')) (by kernel_rfl) (by (try dsimp only); exact (Below.refl w2.heap.size w2).drew) (fun hHeld => ?_)
        refine wpAnyH_take (i := 0) (v := ?_) (by (simp only [List.getElem?_toArray, List.getElem?_cons_succ, List.getElem?_cons_zero]; rfl)) (by kernel_rfl) (by kernel_rfl) (by kernel_rfl) (by intro _ _ _ h; exact h) (Or.inl ⟨by rfl, ?_⟩) (by assumption) ?_
        rotate_left
        · (intro w hSw; (try dsimp only at hSw); go_simp; try (with_reducible rfl))
        simp only [Act.put, List.setIfInBounds_toArray, List.set_cons_zero, List.set_cons_succ]
        refine wpAnyH_take (i := 1) (v := ?_) (by (simp only [List.getElem?_toArray, List.getElem?_cons_succ, List.getElem?_cons_zero]; rfl)) (by kernel_rfl) (by kernel_rfl) (by kernel_rfl) (by intro _ _ _ h; exact h) (Or.inl ⟨by rfl, ?_⟩) (by assumption) ?_
        rotate_left
        · (intro w hSw; (try dsimp only at hSw); go_simp; try (with_reducible rfl))
        simp only [Act.put, List.setIfInBounds_toArray, List.set_cons_zero, List.set_cons_succ]
        refine wpAnyH_take (i := 2) (v := ?_) (by (simp only [List.getElem?_toArray, List.getElem?_cons_succ, List.getElem?_cons_zero]; rfl)) (by kernel_rfl) (by kernel_rfl) (by kernel_rfl) (by intro _ _ _ h; exact h) (Or.inl ⟨by rfl, ?_⟩) (by assumption) ?_
        rotate_left
        · (intro w hSw; (try dsimp only at hSw); go_simp; try (with_reducible rfl))
        simp only [Act.put, List.setIfInBounds_toArray, List.set_cons_zero, List.set_cons_succ]
        refine wpAnyH_take (i := 3) (v := _) (by (simp only [List.getElem?_toArray, List.getElem?_cons_succ, List.getElem?_cons_zero]; rfl)) (by kernel_rfl) (by kernel_rfl) (by kernel_rfl) (by intro _ _ _ h; exact h) (yields_load_pin (by rfl) _ rfl ⟨V, 6, none⟩ rfl ⟨⟨#[103]⟩, x, ⟨#[106, 97, 114]⟩, ⟨#[]⟩, u, 1⟩ (fun w h => HPU.out.below h (Nat.le_refl _))) (by assumption) ?_
        simp only [Act.put, List.setIfInBounds_toArray, List.set_cons_zero, List.set_cons_succ]
        refine wpAnyH_take (i := 5) (v := ?_) (by (simp only [List.getElem?_toArray, List.getElem?_cons_succ, List.getElem?_cons_zero]; rfl)) (by kernel_rfl) (by kernel_rfl) (by kernel_rfl) (by intro _ _ _ h; exact h) (Or.inl ⟨by rfl, ?_⟩) (by assumption) ?_
        rotate_left
        · (intro w hSw; (try dsimp only at hSw); go_simp; try (with_reducible rfl))
        simp only [Act.put, List.setIfInBounds_toArray, List.set_cons_zero, List.set_cons_succ]
        refine wpAnyH_take (i := 6) (v := _) (by (simp only [List.getElem?_toArray, List.getElem?_cons_succ, List.getElem?_cons_zero]; rfl)) (by kernel_rfl) (by kernel_rfl) (by kernel_rfl) (by intro _ _ _ h; exact h) (yields_load_pin (by rfl) _ rfl ⟨V, 12, none⟩ rfl ⟨⟨#[103]⟩, x, ⟨#[106, 97, 114]⟩, ⟨#[]⟩, v, 1⟩ (fun w h => HPV.out.below h (Nat.le_refl _))) (by assumption) ?_
        simp only [Act.put, List.setIfInBounds_toArray, List.set_cons_zero, List.set_cons_succ]
        refine wpAnyH_ready (rs := [4]) (by kernel_rfl) (by simp) ?_
        refine AllReadyH.cons (by (simp only [List.getElem?_toArray, List.getElem?_cons_succ, List.getElem?_cons_zero]; rfl)) (fun K hK => ?_) AllReadyH.nil
        go_simp
        (go_at_call 44; (with_reducible refine (HT1.out _).mono ?_); rintro e wx ⟨rfl, hbx⟩; go_wp2_with fail)
        refine hK.out _ _ (hHeld.trans (hbx.mono hHeld.size)) (fun hHeld => ?_)
        clear hK K
        try simp only [Act.put, List.setIfInBounds_toArray, List.set_cons_zero, List.set_cons_succ]
        refine wpAnyH_ready (rs := [7]) (by kernel_rfl) (by simp) ?_
        refine AllReadyH.cons (by (simp only [List.getElem?_toArray, List.getElem?_cons_succ, List.getElem?_cons_zero]; rfl)) (fun K hK => ?_) AllReadyH.nil
        go_simp
        (go_at_call 44; (with_reducible refine (HT2.out _).mono ?_); rintro e wx ⟨rfl, hbx⟩; go_wp2_with fail)
        refine hK.out _ _ (hHeld.trans (hbx.mono hHeld.size)) (fun hHeld => ?_)
        clear hK K
        try simp only [Act.put, List.setIfInBounds_toArray, List.set_cons_zero, List.set_cons_succ]
        refine wpAnyH_ready (rs := [8]) (by kernel_rfl) (by simp) ?_
        refine AllReadyH.cons (by (simp only [List.getElem?_toArray, List.getElem?_cons_succ, List.getElem?_cons_zero]; rfl)) (fun K hK => ?_) AllReadyH.nil
        go_simp
        refine hK.out _ _ (hHeld.alloc hHeld.size _) (fun hHeld => ?_)
        clear hK K
        try simp only [Act.put, List.setIfInBounds_toArray, List.set_cons_zero, List.set_cons_succ]
        refine wpAnyH_ready (rs := [9]) (by kernel_rfl) (by simp) ?_
        refine AllReadyH.cons (by (simp only [List.getElem?_toArray, List.getElem?_cons_succ, List.getElem?_cons_zero]; rfl)) (fun K hK => ?_) AllReadyH.nil
        go_simp
        (go_at_call 43; (with_reducible refine (HS0.out _ _ (by simp [go_sem]) (by simp [go_sem]) (by simp [go_sem]) (by simp [go_sem]) (by simp [go_sem])).mono ?_); rintro e wy ⟨rfl, hby⟩; go_wp2_with fail)
        refine hK.out _ _ (hHeld.trans (hby.mono hHeld.size)) (fun hHeld => ?_)
        clear hK K
        try simp only [Act.put, List.setIfInBounds_toArray, List.set_cons_zero, List.set_cons_succ]
        refine wpAnyH_ready (rs := [10]) (by kernel_rfl) (by simp) ?_
        refine AllReadyH.cons (by (simp only [List.getElem?_toArray, List.getElem?_cons_succ, List.getElem?_cons_zero]; rfl)) (fun K hK => ?_) AllReadyH.nil
        go_simp
        have HHL := Lib.hid hHeld
        refine hK.out _ _ (hHeld.alloc hHeld.size _) (fun hHeld => ?_)
        clear hK K
        try simp only [Act.put, List.setIfInBounds_toArray, List.set_cons_zero, List.set_cons_succ]
        refine wpAnyH_ready (rs := [11]) (by kernel_rfl) (by simp) ?_
        refine AllReadyH.cons (by (simp only [List.getElem?_toArray, List.getElem?_cons_succ, List.getElem?_cons_zero]; rfl)) (fun K hK => ?_) AllReadyH.nil
        obtain ⟨i0, hi0, hz0, hs0, hb0⟩ := info_parts str_info
        refine wp_append_lies _ _ _ 53 rfl w.heap.size 9 i0 _ 1 16 Try.underlying53 hi0 hz0 hs0 hb0 rfl (by decide) (.slice none 0 0) 0 [] rfl (World.ownsRow_nil _ _ _ _) ⟨wy.heap.size, 0, none⟩ 1 1 [.string L0] (by simp [Act.eval]) rfl ?_ (by simp [Value.oneCell']) (by omega) (by simp only [maxLen]; omega) (by omega) (by have := HBw.out.size; have := HHL.out.size; simp; omega) _ rfl ?_
        · intro j q hj
          match j with
          | 0 => simp at hj; subst hj; rw [add_off, cell_of_row _ wy.heap.size 0 _ 9 (0, 0) (heap_alloc_new wy _)]; rfl
          | j + 1 => simp at hj
        intro g1 cap1 w3 ho3 hg3 hat3 hlt3
        have hb3 : Below w2.heap.size w2 w3 := ((HHL.out.alloc HHL.out.size _).grown hg3 (by have := HHL.out.size; simp; omega) (fun k hk => by cases hk))
        refine hK.out _ _ hb3 (fun hHeld => ?_)
        clear hK K
        try simp only [Act.put, List.setIfInBounds_toArray, List.set_cons_zero, List.set_cons_succ]
        refine wpAnyH_take (i := 12) (v := ?_) (by (simp only [List.getElem?_toArray, List.getElem?_cons_succ, List.getElem?_cons_zero]; rfl)) (by kernel_rfl) (by kernel_rfl) (by kernel_rfl) (by intro _ _ _ h; exact h) (Or.inl ⟨by rfl, ?_⟩) (by assumption) ?_
        rotate_left
        · (intro w hSw; (try dsimp only at hSw); go_simp; try (with_reducible rfl))
        simp only [Act.put, List.setIfInBounds_toArray, List.set_cons_zero, List.set_cons_succ]
        refine wpAnyH_done (by kernel_rfl) ?_ _
        have HO3 := Lib.hid ho3
        have HB3 := Lib.hid (HBw.out.trans (hb3.mono HBw.out.size))
        clear ho3 hg3 hat3 hlt3 hHeld hb3
        go_wp2
        go_roundw
        case rel => exact ⟨k + 1, by omega, by go_num, by rw [HTK.out, HK0.out]; exact HO3.out, HB3.out, fun h => by omega⟩
        case measure => simp [intOf]; omega
      · obtain ⟨b1, rfl, _, _, _, hc1⟩ := HR1.out.elem hp
        have h0 := RdE.atR hc1 hp hb (Nat.le_refl _)
        have H0 := Lib.hid h0
        have HTK := Lib.hid (show (([L0, L1] : List ByteArray).map Value.string).take (k + 1) = (([L0, L1] : List ByteArray).map Value.string).take k ++ [.string L1] by subst hk11; rfl)
        have HK0 := Lib.hid hk11
        clear hc1 hp hown hk11 h0 hnil
        go_wp2_with (first
          | (refine wpList_load_ed rfl _ rfl _ rfl ⟨⟨⟨#[103]⟩, y, ⟨#[106, 97, 114]⟩, ⟨#[]⟩⟩, false, true, ⟨⟨#[]⟩, ⟨#[]⟩, ⟨#[]⟩, ⟨#[]⟩, ⟨#[]⟩, 0⟩, ⟨⟨#[103]⟩, y, ⟨#[106, 97, 114]⟩, ⟨#[]⟩, z, 1⟩⟩ H0.out ?_)
          | (refine wpList_store_ed rfl _ _ rfl _ rfl rfl ⟨⟨⟨#[103]⟩, y, ⟨#[106, 97, 114]⟩, ⟨#[]⟩⟩, false, true, ⟨⟨#[]⟩, ⟨#[]⟩, ⟨#[]⟩, ⟨#[]⟩, ⟨#[]⟩, 0⟩, ⟨⟨#[103]⟩, y, ⟨#[106, 97, 114]⟩, ⟨#[]⟩, z, 1⟩⟩ rfl ?_))
        generalize hVe : wr.heap.size = V
        have hP : EdP (wr.alloc (.cells #[.string ⟨#[103]⟩, .string y, .string ⟨#[106, 97, 114]⟩, .string ⟨#[]⟩, .bool false, .bool true, .string ⟨#[]⟩, .string ⟨#[]⟩, .string ⟨#[]⟩, .string ⟨#[]⟩, .string ⟨#[]⟩, .int .i64 0, .string ⟨#[103]⟩, .string y, .string ⟨#[106, 97, 114]⟩, .string ⟨#[]⟩, .string z, .int .i64 1] 50)) V ⟨⟨⟨#[103]⟩, y, ⟨#[106, 97, 114]⟩, ⟨#[]⟩⟩, false, true, ⟨⟨#[]⟩, ⟨#[]⟩, ⟨#[]⟩, ⟨#[]⟩, ⟨#[]⟩, 0⟩, ⟨⟨#[103]⟩, y, ⟨#[106, 97, 114]⟩, ⟨#[]⟩, z, 1⟩⟩ := by rw [← hVe]; exact heap_alloc_new wr _
        have hb1 : Below wr.heap.size wr (wr.alloc (.cells #[.string ⟨#[103]⟩, .string y, .string ⟨#[106, 97, 114]⟩, .string ⟨#[]⟩, .bool false, .bool true, .string ⟨#[]⟩, .string ⟨#[]⟩, .string ⟨#[]⟩, .string ⟨#[]⟩, .string ⟨#[]⟩, .int .i64 0, .string ⟨#[103]⟩, .string y, .string ⟨#[106, 97, 114]⟩, .string ⟨#[]⟩, .string z, .int .i64 1] 50)) := (Below.refl _ _).alloc (Nat.le_refl _) _
        generalize wr.alloc (.cells #[.string ⟨#[103]⟩, .string y, .string ⟨#[106, 97, 114]⟩, .string ⟨#[]⟩, .bool false, .bool true, .string ⟨#[]⟩, .string ⟨#[]⟩, .string ⟨#[]⟩, .string ⟨#[]⟩, .string ⟨#[]⟩, .int .i64 0, .string ⟨#[103]⟩, .string y, .string ⟨#[106, 97, 114]⟩, .string ⟨#[]⟩, .string z, .int .i64 1] 50) = w1 at hP hb1 ⊢
        have HP1 := Lib.hid hP
        have HB1 := Lib.hid hb1
        clear hP hb1 hVe
        go_wp2_with fail
        refine (HK2.out _).mono ?_
        rintro e w2 ⟨rfl, hb2⟩
        have hP2 : EdP w2 V ⟨⟨⟨#[103]⟩, y, ⟨#[106, 97, 114]⟩, ⟨#[]⟩⟩, false, true, ⟨⟨#[]⟩, ⟨#[]⟩, ⟨#[]⟩, ⟨#[]⟩, ⟨#[]⟩, 0⟩, ⟨⟨#[103]⟩, y, ⟨#[106, 97, 114]⟩, ⟨#[]⟩, z, 1⟩⟩ := (hb2.block V (Array.getElem?_eq_some_iff.1 HP1.out).1).trans HP1.out
        have HB2 := Lib.hid (HB1.out.trans (hb2.mono HB1.out.size))
        obtain ⟨y0, y1, y2, y3, y4, y5, y6, y7, y8, y9, y10, y11, y12, y13, y14, y15, y16, y17⟩ := hP2.cells
        simp only at y0 y1 y2 y3 y4 y5 y6 y7 y8 y9 y10 y11 y12 y13 y14 y15 y16 y17
        clear hP2 hb2
        go_wp2_with fail
        refine (HT3.out _).mono ?_
        rintro e w3 ⟨rfl, hb3⟩
        have HB3 := Lib.hid (HB2.out.trans (hb3.mono HB2.out.size))
        clear hb3 y0 y1 y2 y3 y4 y5 y6 y7 y8 y9 y10 y11 y12 y13 y14 y15 y16 y17
        go_wp2_with fail
        refine (HS1.out _ _ (by simp [go_sem]) (by simp [go_sem]) (by simp [go_sem])).mono ?_
        rintro e w4 ⟨rfl, hb4⟩
        have hb5 : Below wr.heap.size wr w4 := (HB3.out.alloc HB3.out.size _).trans (hb4.mono (HB3.out.alloc HB3.out.size _).size)
        have HB5 := Lib.hid hb5
        have HO5 := Lib.hid (own_same HO.out (w' := w4) (fun g hg => hb5.block g (HO.out.lt g hg).2))
        have HBw := Lib.hid (HB.out.trans (hb5.mono HB.out.size))
        clear hb4 hb5
        go_wp2_with (at_builtin
                     refine app1 rfl _ _ 53 9 rfl _ 16 w.heap.size k Try.underlying53 str_info rfl u3 _ rfl HO5.out (by simp [Act.eval]) rfl (by omega) (by omega) HBw.out.size ?_)
        intro v' w5 ho5 hg5 hb55
        have HO6 := Lib.hid ho5
        have HB6 := Lib.hid (HBw.out.trans (hb55.mono (Nat.le_refl _)))
        clear ho5 hg5 hb55
        go_wp2
        go_roundw
        case rel => exact ⟨k + 1, by omega, by go_num, by rw [HTK.out]; exact HO6.out, HB6.out, fun h => by omega⟩
        case measure => simp [intOf]; omega
    · have hk2 : k = 2 := by omega
      subst hk2
      have HF := Lib.hid (show ∃ b cap, u3 = .slice (some ⟨b, 0, none⟩) 2 cap ∧ 2 ≤ cap ∧ wr.cell? ⟨b, 0, none⟩ = some (.string L0) ∧ wr.cell? ⟨b, 1, none⟩ = some (.string L1) from by
        have ho := HO.out
        rcases ho.2 with ⟨_, h0⟩ | ⟨g, cap, cur, hv, _, hg, hc2, _⟩
        · omega
        · subst hv
          exact ⟨g, cap, rfl, hc2, by rw [ho.cellAt 0 (by omega)]; rfl, by rw [ho.cellAt 1 (by omega)]; rfl⟩)
      obtain ⟨bb, cap, rfl, hcap, f0, f1⟩ := HF.out
      clear hlt
      have HF0 := Lib.hid f0
      have HF1 := Lib.hid f1
      clear f0 f1 hown hb hnil
      go_wp2
      go_ret
      exact ⟨bb, cap, rfl, hcap, HF0.out, HF1.out, HB.out⟩
end Go.Proofs.Ytoibanffaebllaa
