/-
  Layer 10: whether a row has a dependency of a key (the answer's Has). Own work.
-/
import Derived.Test.YtjkmmmmbdfcnbaaKey10
namespace Go.Proofs.Ytjkmmmmbdfcnbaa
set_option linter.unusedVariables false
set_option linter.unusedSimpArgs false
open Go.RowKit

def sameKy (x y : Ky) : Bool := eqS x.g y.g && (eqS x.a y.a && (eqS x.t y.t && eqS x.c y.c))
theorem sameKy_iff {x y : Ky} : sameKy x y = true ↔ x = y := by
  unfold sameKy
  rw [Bool.and_eq_true, Bool.and_eq_true, Bool.and_eq_true, eqS_iff, eqS_iff, eqS_iff, eqS_iff]
  constructor
  · rintro ⟨a, b, c, d⟩; cases x; cases y; simp only at a b c d; subst a; subst b; subst c; subst d; rfl
  · rintro rfl; exact ⟨rfl, rfl, rfl, rfl⟩
theorem eqI_ky (x y : Ky) (d : Nat) (w : World) : (Op.equalIn (d + 2) 45 x.val y.val).run Try.prog w = .ok (sameKy x y) w := by
  have u3 := Try.underlying9
  have a3 := Try.isAgg9
  have z3 := Try.sizeOf9
  have hS : Try.prog.underlying 45 = some (.struct (Try.prog.fieldsOf 45)) := by kernel_rfl
  have hp : Try.prog.stoodInHeld 45 = false := by kernel_rfl
  unfold Ky.val
  rw [run_equalIn_agg w (d + 1) 45 _ _ hS hp]
  simp only [Program.fieldsOf, Try.underlying45]
  go_simp
  unfold sameKy eqS
  by_cases h1 : x.g.toList = y.g.toList <;> by_cases h2 : x.a.toList = y.a.toList <;> by_cases h3 : x.t.toList = y.t.toList <;> by_cases h4 : x.c.toList = y.c.toList <;> simp [h1, h2, h3, h4]
theorem eq_ky (x y : Ky) (w : World) : (binOp .eql 45 x.val y.val).run Try.prog w = .ok (.bool (sameKy x y)) w := by
  unfold Ky.val
  rw [run_eql_struct, show (10000 : Nat) = 9998 + 2 from rfl]
  have := eqI_ky x y 9998 w
  unfold Ky.val at this
  rw [this]; rfl
def hasK (l : List Dp) (k : Ky) : Bool := l.any fun d => sameKy (keyD d) k
theorem hasK_yes {l : List Dp} {k : Ky} {i : Nat} {d : Dp} (hd : l[i]? = some d) (h : sameKy (keyD d) k = true) : hasK l k = true := List.any_eq_true.2 ⟨d, List.mem_of_getElem? hd, h⟩
theorem hasK_step {l : List Dp} {k : Ky} {i : Nat} {d : Dp} (hd : l[i]? = some d) (h0 : hasK (l.take i) k = false) (h : sameKy (keyD d) k = false) : hasK (l.take (i + 1)) k = false := by
  unfold hasK at *
  rw [List.take_add_one, hd, List.any_append, h0]
  simp [h]
theorem keepH {w1 w2 w3 : World} {A B : Nat} {a0 a1 a2 a3 a4 a5 a6 a7 b0 b1 b2 b3 : Value}
    (h : (w2.cell? ⟨A, 0, none⟩ = some a0 ∧ w2.cell? ⟨A, 1, none⟩ = some a1 ∧ w2.cell? ⟨A, 2, none⟩ = some a2 ∧ w2.cell? ⟨A, 3, none⟩ = some a3 ∧ w2.cell? ⟨A, 4, none⟩ = some a4 ∧ w2.cell? ⟨A, 5, none⟩ = some a5 ∧ w2.cell? ⟨A, 6, none⟩ = some a6 ∧ w2.cell? ⟨A, 7, none⟩ = some a7) ∧
      ((w2.cell? ⟨B, 0, none⟩ = some b0 ∧ w2.cell? ⟨B, 1, none⟩ = some b1 ∧ w2.cell? ⟨B, 2, none⟩ = some b2 ∧ w2.cell? ⟨B, 3, none⟩ = some b3) ∧ Below w1.heap.size w1 w2)) (hb : Below w2.heap.size w2 w3) :
    (w3.cell? ⟨A, 0, none⟩ = some a0 ∧ w3.cell? ⟨A, 1, none⟩ = some a1 ∧ w3.cell? ⟨A, 2, none⟩ = some a2 ∧ w3.cell? ⟨A, 3, none⟩ = some a3 ∧ w3.cell? ⟨A, 4, none⟩ = some a4 ∧ w3.cell? ⟨A, 5, none⟩ = some a5 ∧ w3.cell? ⟨A, 6, none⟩ = some a6 ∧ w3.cell? ⟨A, 7, none⟩ = some a7) ∧
      ((w3.cell? ⟨B, 0, none⟩ = some b0 ∧ w3.cell? ⟨B, 1, none⟩ = some b1 ∧ w3.cell? ⟨B, 2, none⟩ = some b2 ∧ w3.cell? ⟨B, 3, none⟩ = some b3) ∧ Below w1.heap.size w1 w3) := by
  obtain ⟨⟨h0, h1, h2, h3, h4, h5, h6, h7⟩, ⟨g0, g1, g2, g3⟩, hB⟩ := h
  have hc : ∀ {A : Addr} {x : Value}, w2.cell? A = some x → w3.cell? A = some x := fun hx => (hb.cell (World.block_lt_of_cell? w2 _ hx)).trans hx
  exact ⟨⟨hc h0, hc h1, hc h2, hc h3, hc h4, hc h5, hc h6, hc h7⟩, ⟨hc g0, hc g1, hc g2, hc g3⟩, hB.trans (hb.mono hB.size)⟩
set_option maxRecDepth 100000 in
set_option maxHeartbeats 4000000 in
theorem Has_any (l : List Dp) (k : Ky) (va : Value) (w : World) (ha : RdDs w va l) :
    Calls Try.prog 14 #[va, k.val] w (BoolQ (hasK l k) w) := by
  obtain ⟨aa, ac, rfl⟩ := RdSl.shape ha
  have hla := RdSl.len ha
  have hlaI : (l.length : Int) ≤ 9223372036854775807 := by omega
  unfold Ky.val
  have hb0 : Below w.heap.size w (w.alloc (.cells #[.string k.g, .string k.a, .string k.t, .string k.c] 45)) := (Below.refl w.heap.size w).alloc (Nat.le_refl _) _
  have hkn := heap_alloc_new w (.cells #[.string k.g, .string k.a, .string k.t, .string k.c] 45)
  have HA := Lib.hid (ha.below hb0 (Nat.le_refl _))
  have HB0 := Lib.hid hb0
  clear ha hb0
  go_enter Try.func14, Try.ntmps14
  go_upto_region 1 with fail
  generalize w.alloc (.cells #[.string k.g, .string k.a, .string k.t, .string k.c] 45) = w1 at hkn HA HB0 ⊢
  generalize w.heap.size = KV at hkn ⊢
  have HKN := Lib.hid hkn
  clear hkn
  go_wp2_with fail
  go_loopw [9] (fun i wr => ∃ q : Nat, q ≤ l.length ∧ i = .int .i64 q ∧ hasK (l.take q) k = false ∧ Below w1.heap.size w1 wr) (fun i _ => l.length - (intOf i).toNat)
  case atStart => exact ⟨0, by omega, rfl, rfl, Below.refl _ _⟩
  case round =>
    obtain ⟨q, hq, rfl, hno, hbw⟩ := hrel
    have HNO := Lib.hid hno
    have HB := Lib.hid hbw
    clear hno
    by_cases hlt : q < l.length
    · obtain ⟨x, hx⟩ : ∃ x, l[q]? = some x := ⟨_, List.getElem?_eq_getElem hlt⟩
      obtain ⟨a1, e1, ex, p0, rx⟩ := RdSl.elem (HA.out.below hbw (Nat.le_refl _)) hx
      subst e1
      obtain ⟨xa, xc, rfl⟩ := RdSl.shape rx
      obtain ⟨c0, c1, c2, c3, c4, c5, c6, c7⟩ := p0
      have hbb : Below wr.heap.size wr (wr.alloc (.cells #[.string x.g, .string x.a, .string x.v, .string x.t, .string x.c, .int .i64 x.sc, .int .i64 x.op, .slice xa x.ex.length xc] 34)) := (Below.refl _ _).alloc (Nat.le_refl _) _
      have hnew := heap_alloc_new wr (.cells #[.string x.g, .string x.a, .string x.v, .string x.t, .string x.c, .int .i64 x.sc, .int .i64 x.op, .slice xa x.ex.length xc] 34)
      have HBB := Lib.hid (HB.out.trans (hbb.mono HB.out.size))
      have HX := Lib.hid hx
      obtain ⟨kx, hkx⟩ : ∃ kx, kx = keyD x := ⟨_, rfl⟩
      have hop0 : ∀ wz, Calls Try.prog 15 #[.agg #[.string x.g, .string x.a, .string x.v, .string x.t, .string x.c, .int .i64 x.sc, .int .i64 x.op, .slice xa x.ex.length xc]] wz fun e w' => e = .returned (.agg #[.string kx.g, .string kx.a, .string kx.t, .string kx.c]) ∧ Below wz.heap.size wz w' := fun wz => by rw [hkx]; exact refKey_any x (.slice xa x.ex.length xc) wz ⟨_, _, rfl⟩
      have HKX := Lib.hid hkx
      have HOP := Lib.hid hop0
      clear hbw hbb hx rx hop0 hkx
      go_upto_region 4 with fail
      generalize wr.alloc (.cells #[.string x.g, .string x.a, .string x.v, .string x.t, .string x.c, .int .i64 x.sc, .int .i64 x.op, .slice xa x.ex.length xc] 34) = wb at hnew HBB ⊢
      generalize wr.heap.size = KB at hnew ⊢
      have hkb := (HBB.out.block KV (Array.getElem?_eq_some_iff.1 HKN.out).1).trans HKN.out
      have r0 : wb.cell? ⟨KB, 0, none⟩ = some (.string x.g) := by rw [cell_of_row wb KB 0 _ _ (0, 0) hnew]; rfl
      have r1 : wb.cell? ⟨KB, 1, none⟩ = some (.string x.a) := by rw [cell_of_row wb KB 1 _ _ (0, 0) hnew]; rfl
      have r2 : wb.cell? ⟨KB, 2, none⟩ = some (.string x.v) := by rw [cell_of_row wb KB 2 _ _ (0, 0) hnew]; rfl
      have r3 : wb.cell? ⟨KB, 3, none⟩ = some (.string x.t) := by rw [cell_of_row wb KB 3 _ _ (0, 0) hnew]; rfl
      have r4 : wb.cell? ⟨KB, 4, none⟩ = some (.string x.c) := by rw [cell_of_row wb KB 4 _ _ (0, 0) hnew]; rfl
      have r5 : wb.cell? ⟨KB, 5, none⟩ = some (.int .i64 x.sc) := by rw [cell_of_row wb KB 5 _ _ (0, 0) hnew]; rfl
      have r6 : wb.cell? ⟨KB, 6, none⟩ = some (.int .i64 x.op) := by rw [cell_of_row wb KB 6 _ _ (0, 0) hnew]; rfl
      have r7 : wb.cell? ⟨KB, 7, none⟩ = some (.slice xa x.ex.length xc) := by rw [cell_of_row wb KB 7 _ _ (0, 0) hnew]; rfl
      have s0 : wb.cell? ⟨KV, 0, none⟩ = some (.string k.g) := by rw [cell_of_row wb KV 0 _ _ (0, 0) hkb]; rfl
      have s1 : wb.cell? ⟨KV, 1, none⟩ = some (.string k.a) := by rw [cell_of_row wb KV 1 _ _ (0, 0) hkb]; rfl
      have s2 : wb.cell? ⟨KV, 2, none⟩ = some (.string k.t) := by rw [cell_of_row wb KV 2 _ _ (0, 0) hkb]; rfl
      have s3 : wb.cell? ⟨KV, 3, none⟩ = some (.string k.c) := by rw [cell_of_row wb KV 3 _ _ (0, 0) hkb]; rfl
      have hEQ : ∀ w, (binOp .eql 45 (.agg #[.string kx.g, .string kx.a, .string kx.t, .string kx.c]) (.agg #[.string k.g, .string k.a, .string k.t, .string k.c])).run Try.prog w = .ok (.bool (sameKy kx k)) w := fun w => eq_ky kx k w
      generalize hs : sameKy kx k = s at hEQ
      rw [HKX.out] at hs
      have HS := Lib.hid hs
      clear hnew hkb c0 c1 c2 c3 c4 c5 c6 c7 hs
      refine wp_region_held_drew (S := (fun w' => (w'.cell? ⟨KB, 0, none⟩ = some (.string x.g) ∧ w'.cell? ⟨KB, 1, none⟩ = some (.string x.a) ∧ w'.cell? ⟨KB, 2, none⟩ = some (.string x.v) ∧ w'.cell? ⟨KB, 3, none⟩ = some (.string x.t) ∧ w'.cell? ⟨KB, 4, none⟩ = some (.string x.c) ∧ w'.cell? ⟨KB, 5, none⟩ = some (.int .i64 x.sc) ∧ w'.cell? ⟨KB, 6, none⟩ = some (.int .i64 x.op) ∧ w'.cell? ⟨KB, 7, none⟩ = some (.slice xa x.ex.length xc)) ∧ ((w'.cell? ⟨KV, 0, none⟩ = some (.string k.g) ∧ w'.cell? ⟨KV, 1, none⟩ = some (.string k.a) ∧ w'.cell? ⟨KV, 2, none⟩ = some (.string k.t) ∧ w'.cell? ⟨KV, 3, none⟩ = some (.string k.c)) ∧ Below wb.heap.size wb w'))) (by kernel_rfl) (by (try dsimp only); exact ⟨⟨r0, r1, r2, r3, r4, r5, r6, r7⟩, ⟨s0, s1, s2, s3⟩, (Below.refl _ _).drew⟩) (fun hHeld => ?_)
      refine wpAnyH_take (i := 0) (v := ?_) (by (simp only [List.getElem?_toArray, List.getElem?_cons_succ, List.getElem?_cons_zero]; rfl)) (by kernel_rfl) (by kernel_rfl) (by kernel_rfl) (by intro _ _ _ h; exact h) (Or.inl ⟨by rfl, ?_⟩) (by assumption) ?_
      rotate_left
      · (intro w hSw; (try dsimp only at hSw); go_simp; try (with_reducible rfl))
      simp only [Act.put, List.setIfInBounds_toArray, List.set_cons_zero, List.set_cons_succ]
      refine wpAnyH_take (i := 2) (v := ?_) (by (simp only [List.getElem?_toArray, List.getElem?_cons_succ, List.getElem?_cons_zero]; rfl)) (by kernel_rfl) (by kernel_rfl) (by kernel_rfl) (by intro _ _ _ h; exact h) (Or.inl ⟨by rfl, ?_⟩) (by assumption) ?_
      rotate_left
      · (intro w hSw; (try dsimp only at hSw); go_simp; try (with_reducible rfl))
      simp only [Act.put, List.setIfInBounds_toArray, List.set_cons_zero, List.set_cons_succ]
      refine wpAnyH_ready (rs := [1]) (by kernel_rfl) (by simp) ?_
      refine AllReadyH.cons (by (simp only [List.getElem?_toArray, List.getElem?_cons_succ, List.getElem?_cons_zero]; rfl)) (fun K hK => ?_) AllReadyH.nil
      go_simp
      go_at_call 15; refine (HOP.out _).mono ?_; rintro e w3 ⟨rfl, hb3⟩
      refine hK.out _ _ (by (try dsimp only); exact keepH hHeld hb3) (fun hHeld => ?_)
      clear hK K
      try simp only [Act.put, List.setIfInBounds_toArray, List.set_cons_zero, List.set_cons_succ]
      refine wpAnyH_take (i := 3) (v := ?_) (by (simp only [List.getElem?_toArray, List.getElem?_cons_succ, List.getElem?_cons_zero]; rfl)) (by kernel_rfl) (by kernel_rfl) (by kernel_rfl) (by intro _ _ _ h; exact h) (Or.inl ⟨by rfl, ?_⟩) (by assumption) ?_
      rotate_left
      · (intro w hSw; (try dsimp only at hSw); go_simp; try (with_reducible rfl))
      simp only [Act.put, List.setIfInBounds_toArray, List.set_cons_zero, List.set_cons_succ]
      refine wpAnyH_done (by kernel_rfl) ?_ _
      have HB3 := Lib.hid (HBB.out.trans (hHeld.2.2.mono HBB.out.size))
      clear hHeld hb3 r0 r1 r2 r3 r4 r5 r6 r7 s0 s1 s2 s3 hEQ
      cases s
      · go_wp2
        go_roundw
        case rel => exact ⟨q + 1, by omega, by go_num, hasK_step HX.out HNO.out HS.out, HB3.out⟩
        case measure => simp [intOf]; omega
      · go_wp2
        go_ret
        exact ⟨ret_bool (hasK_yes HX.out HS.out).symm, HB0.out.trans (HB3.out.mono HB0.out.size)⟩
    · have hle : (l.length : Int) ≤ q := by omega
      have HN := Lib.hid (show hasK l k = false by have := HNO.out; rw [List.take_of_length_le (by omega)] at this; exact this)
      clear hbw
      go_wp2
      go_ret
      exact ⟨ret_bool HN.out.symm, HB0.out.trans (HB.out.mono HB0.out.size)⟩
end Go.Proofs.Ytjkmmmmbdfcnbaa
