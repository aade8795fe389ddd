/-
  Layer 2: the statement TokenAll: for every text. Own work.
-/
import Derived.Test.YtldgjiohigiioaaLaws02a
import Derived.Test.YtldgjiohigiioaaRf2i
import Derived.Test.YtldgjiohigiioaaSame2
namespace Go.Proofs.Ytldgjiohigiioaa
set_option linter.unusedVariables false
set_option linter.unusedSimpArgs false
open Go.ChangeShapes Go.WideShapes Go.ChangeAt Go.RowKit
open Go.ChangeMaps (open_string shut_string)

theorem eqI_pl (x y z : Int) (d : Nat) (w : World) : (Op.equalIn (d + 2) 26 (.agg #[.int .i64 x, .int .i64 y, .int .i64 z]) (.agg #[.int .i64 x, .int .i64 y, .int .i64 z])).run Try.prog w = .ok true w := by
  have u3 := Try.underlying3
  have a3 := Try.isAgg3
  have z3 := Try.sizeOf3
  have hS : Try.prog.underlying 26 = some (.struct (Try.prog.fieldsOf 26)) := by kernel_rfl
  have hp : Try.prog.stoodInHeld 26 = false := by kernel_rfl
  rw [run_equalIn_agg w (d + 1) 26 _ _ hS hp]
  simp only [Program.fieldsOf, Try.underlying26]
  go_simp
theorem same_pl (x y z : Int) (w : World) : (binOp .neq 26 (.agg #[.int .i64 x, .int .i64 y, .int .i64 z]) (.agg #[.int .i64 x, .int .i64 y, .int .i64 z])).run Try.prog w = .ok (.bool false) w := by
  rw [run_neq_struct, show (10000 : Nat) = 9998 + 2 from rfl, eqI_pl]; rfl
theorem eq_pl (x y z : Int) (w : World) : (binOp .eql 26 (.agg #[.int .i64 x, .int .i64 y, .int .i64 z]) (.agg #[.int .i64 x, .int .i64 y, .int .i64 z])).run Try.prog w = .ok (.bool true) w := by
  rw [run_eql_struct, show (10000 : Nat) = 9998 + 2 from rfl, eqI_pl]; rfl
set_option maxRecDepth 100000 in
set_option maxHeartbeats 2000000 in
theorem walk_TokenAll (s : ByteArray) (hs : s.size ≤ 9223372036854775807) (w : World) :
    Calls Try.prog 3 #[.string s] w fun e w' => e = .returned (.bool true) ∧ Below w.heap.size w w' := by
  have HLV := Lib.hid (fun w => lives02 w)
  go_enter Try.func3, Try.ntmps3
  go_wp2_with fail
  refine (cut02_any s hs w).mono ?_
  rintro e w1 ⟨l, rfl, hl, rfl⟩
  have HL := Lib.hid hl
  have hsz := size_str l
  have HSZ := Lib.hid hsz
  clear hsz
  go_wp2_with fail
  refine (all_two l (by omega) w1).mono ?_
  rintro e w2 ⟨hb2, ⟨c, r, hM, rfl⟩ | ⟨ts, r, a, cp, hM, rfl, hr⟩⟩
  · have HNE := Lib.hid (all_ne hM)
    obtain ⟨o, ho⟩ : ∃ o, o = l.length - r.length := ⟨_, rfl⟩
    have hpre : preO l r = l.take o := by rw [ho]; rfl
    rw [hpre, ← ho]
    have HRA := Lib.hid (fun w => (refAll_any l (by omega) w).mono (R' := fun e w' => e = .returned (.tuple #[.slice none 0 0, .int .i64 c, .int .i64 (o : Int)]) ∧ Below w.heap.size w w') (fun e w' h => by
      obtain ⟨h1, h2⟩ := h
      rw [hM] at h2
      rw [ho]
      exact ⟨h2, h1⟩))
    have HOL := Lib.hid (show o ≤ l.length by omega)
    obtain ⟨w3, hw3⟩ : ∃ w3, w3 = w2.alloc (.cells #[.int .i64 (o : Int), .int .i64 (lineS (l.take o)), .int .i64 (colS (l.take o))] 26) := ⟨_, rfl⟩
    have hb23 : Below w2.heap.size w2 w3 := by rw [hw3]; exact (Below.refl _ _).alloc (Nat.le_refl _) _
    have HB3 := Lib.hid (hb2.trans (hb23.mono hb2.size))
    have HP3 := Lib.hid (show w3.heap[w2.heap.size]? = some (.cells #[.int .i64 (o : Int), .int .i64 (lineS (l.take o)), .int .i64 (colS (l.take o))] 26 (0, 0)) by rw [hw3]; exact heap_alloc_new w2 _)
    have HW3 := Lib.hid hw3
    clear hw3 hb23 hb2 hM ho hpre hl
    go_upto_region 3 with fail
    rw [← HW3.out]
    generalize w2.heap.size = PB at HP3 ⊢
    go_wp2_with fail
    refine (HRA.out _).mono ?_
    rintro e w4 ⟨rfl, hb4⟩
    have HB4 := Lib.hid (HB3.out.trans (hb4.mono HB3.out.size))
    have HP4 := Lib.hid ((hb4.block PB (Array.getElem?_eq_some_iff.1 HP3.out).1).trans HP3.out)
    have HSM := Lib.hid (Same_yes (.slice none 0 0) (.slice none 0 0) [] [] w4 (.inl ⟨rfl, rfl⟩) (.inl ⟨rfl, rfl⟩) rfl (by simp))
    clear hb4
    have hcc : (c != c) = false := by simp
    go_wp2_with fail
    refine HSM.out.mono ?_
    rintro e w5 ⟨rfl, hb5⟩
    have HB5 := Lib.hid (HB4.out.trans (hb5.mono HB4.out.size))
    have HP5 := Lib.hid ((hb5.block PB (Array.getElem?_eq_some_iff.1 HP4.out).1).trans HP4.out)
    clear hb5 hcc HSM
    go_wp2_with fail
    go_loopw [37] (fun i wr => i = .int .i64 0 ∧ wr = w5) (fun _ _ => 0)
    case atStart => exact ⟨rfl, rfl⟩
    case round =>
      obtain ⟨rfl, rfl⟩ := hrel
      have hc0 : (c == 0) = false := by simpa using HNE.out
      have HAT := Lib.hid (refAt_any (str l) (by rw [size_str]; have := HL.out; omega) o (by rw [size_str]; exact HOL.out) wr)
      rw [toList_str] at HAT
      have z0 : wr.cell? ⟨PB, 0, none⟩ = some (.int .i64 (o : Int)) := by rw [cell_of_row wr _ 0 _ _ (0, 0) HP5.out]; rfl
      have z1 : wr.cell? ⟨PB, 1, none⟩ = some (.int .i64 (lineS (l.take o))) := by rw [cell_of_row wr _ 1 _ _ (0, 0) HP5.out]; rfl
      have z2 : wr.cell? ⟨PB, 2, none⟩ = some (.int .i64 (colS (l.take o))) := by rw [cell_of_row wr _ 2 _ _ (0, 0) HP5.out]; rfl
      generalize lineS (l.take o) = li at z1 HAT
      generalize colS (l.take o) = co at z2 HAT
      have heq := fun w => eq_pl (o : Int) li co w
      go_wp2_with fail
      refine HAT.out.mono ?_
      rintro e w6 ⟨rfl, hw6⟩
      obtain rfl : wr = w6 := hw6.symm
      clear hw6
      go_wp2_with fail
      refine (HLV.out _).mono ?_
      rintro e w7 ⟨rfl, hb7⟩
      have HB7 := Lib.hid (HB5.out.trans (hb7.mono HB5.out.size))
      clear hb7
      go_wp2
      go_ret
      exact ⟨rfl, HB7.out⟩
  · have HRA := Lib.hid (fun w => (refAll_any l (by omega) w).mono (R' := fun e w' => ∃ b q, e = .returned (.tuple #[.slice b ts.length q, .int .i64 0, .int .i64 0]) ∧ RdTs w' (.slice b ts.length q) (ts.map (Tk.mem l)) ∧ Below w.heap.size w w') (fun e w' h => by
      obtain ⟨h1, h2⟩ := h
      rw [hM] at h2
      obtain ⟨v, rfl, hr⟩ := h2
      obtain ⟨b, q, rfl⟩ := RdSl.shape hr
      rw [List.length_map] at hr ⊢
      exact ⟨b, q, rfl, hr, h1⟩))
    obtain ⟨w3, hw3⟩ : ∃ w3, w3 = w2.alloc (.cells #[.int .i64 0, .int .i64 0, .int .i64 0] 26) := ⟨_, rfl⟩
    have hb23 : Below w2.heap.size w2 w3 := by rw [hw3]; exact (Below.refl _ _).alloc (Nat.le_refl _) _
    have HB3 := Lib.hid (hb2.trans (hb23.mono hb2.size))
    have HR3 := Lib.hid (hr.below hb23 (Nat.le_refl _))
    have HP3 := Lib.hid (show w3.heap[w2.heap.size]? = some (.cells #[.int .i64 0, .int .i64 0, .int .i64 0] 26 (0, 0)) by rw [hw3]; exact heap_alloc_new w2 _)
    have HW3 := Lib.hid hw3
    have hlen := RdSl.len hr
    rw [List.length_map] at hlen
    have hlenI : (ts.length : Int) ≤ 9223372036854775807 := by omega
    clear hw3 hb23 hb2 hM hr hl hlen
    go_upto_region 3 with fail
    rw [← HW3.out]
    generalize w2.heap.size = PB at HP3 ⊢
    go_wp2_with fail
    refine (HRA.out _).mono ?_
    rintro e w4 ⟨b, q, rfl, hr4, hb4⟩
    have HB4 := Lib.hid (HB3.out.trans (hb4.mono HB3.out.size))
    have HP4 := Lib.hid ((hb4.block PB (Array.getElem?_eq_some_iff.1 HP3.out).1).trans HP3.out)
    have HRL4 := Lib.hid (HR3.out.below hb4 (Nat.le_refl _))
    have HSM := Lib.hid (Same_yes (.slice a ts.length cp) (.slice b ts.length q) (ts.map (Tk.mem l)) (ts.map (Tk.mem l)) w4 HRL4.out hr4 rfl (fun i x y hx hy => by rw [hx] at hy; cases hy; exact ⟨rfl, rfl, rfl, rfl⟩))
    have HRM4 := Lib.hid hr4
    clear hb4 hr4
    go_wp2_with fail
    refine HSM.out.mono ?_
    rintro e w5 ⟨rfl, hb5⟩
    have HB5 := Lib.hid (HB4.out.trans (hb5.mono HB4.out.size))
    have HP5 := Lib.hid ((hb5.block PB (Array.getElem?_eq_some_iff.1 HP4.out).1).trans HP4.out)
    have HRL5 := Lib.hid (HRL4.out.below hb5 (Nat.le_refl _))
    have HRM5 := Lib.hid (HRM4.out.below hb5 (Nat.le_refl _))
    clear hb5 HSM
    go_wp2_with fail
    go_loopw [37] (fun i wr => ∃ k : Nat, k ≤ ts.length ∧ i = .int .i64 k ∧ Below w5.heap.size w5 wr) (fun i _ => ts.length - (intOf i).toNat)
    case atStart => exact ⟨0, by omega, rfl, Below.refl _ _⟩
    case round =>
      obtain ⟨k, hk, rfl, hb⟩ := hrel
      have HB := Lib.hid hb
      by_cases hlt : k < ts.length
      · obtain ⟨t, ht⟩ : ∃ t, ts[k]? = some t := ⟨_, List.getElem?_eq_getElem hlt⟩
        obtain ⟨bb, e1, va, ⟨_, _, _, _, x4, x5, x6⟩, _⟩ := RdSl.elem (HRL5.out.below hb (Nat.le_refl _)) (mem_at ht)
        subst e1
        obtain ⟨bc, e1, vb, ⟨_, _, _, _, y4, y5, y6⟩, _⟩ := RdSl.elem (HRM5.out.below hb (Nat.le_refl _)) (mem_at ht)
        subst e1
        generalize (t.mem l).po = p0 at x4 y4
        generalize (t.mem l).pl = p1 at x5 y5
        generalize (t.mem l).pc = p2 at x6 y6
        have hnq := fun w => same_pl p0 p1 p2 w
        have hltI : (k : Int) < (ts.length : Int) := by omega
        clear ht hb
        go_upto_region 9 with fail
        go_quiet (fail)
        clear x4 x5 x6 y4 y5 y6 hnq
        go_wp2
        go_roundw
        case rel => exact ⟨k + 1, by omega, by go_num, below_drewN HB.out _⟩
        case measure => simp [intOf]; omega
      · have hle : (ts.length : Int) ≤ k := by omega
        have HPR := Lib.hid ((HB.out.block PB (Array.getElem?_eq_some_iff.1 HP5.out).1).trans HP5.out)
        have z0 : wr.cell? ⟨PB, 0, none⟩ = some (.int .i64 0) := by rw [cell_of_row wr _ 0 _ _ (0, 0) HPR.out]; rfl
        have z1 : wr.cell? ⟨PB, 1, none⟩ = some (.int .i64 0) := by rw [cell_of_row wr _ 1 _ _ (0, 0) HPR.out]; rfl
        have z2 : wr.cell? ⟨PB, 2, none⟩ = some (.int .i64 0) := by rw [cell_of_row wr _ 2 _ _ (0, 0) HPR.out]; rfl
        have heq := fun w => eq_pl 0 0 0 w
        have HBW := Lib.hid (HB5.out.trans (hb.mono HB5.out.size))
        clear hb
        go_wp2_with fail
        refine (HLV.out _).mono ?_
        rintro e w7 ⟨rfl, hb7⟩
        have HB7 := Lib.hid (HBW.out.trans (hb7.mono HBW.out.size))
        clear hb7
        go_wp2
        go_ret
        exact ⟨rfl, HB7.out⟩

set_option maxRecDepth 100000 in
theorem lifted_TokenAll (os : Os) (started : os.Started) (H : Type) (enc : TypeId × Value → H) :
    ReturnsInHanded {} Try.checked os 3 .any (Rows.tokenAllSpec.pre6 enc Try.prog Try.f3 Rows.tokenAllRow.domain false) (Rows.tokenAllSpec.post enc Try.prog Try.f3 false true false false) := by
  refine returnsInHanded_of_change (C := Try.checked) own_knob started (by kernel_rfl) Try.func3
    (ChangeSpec.witness6 (enc := enc) (C := Try.checked) false ⟨#[], #[.string .empty], []⟩ 8 (by kernel_rfl) (by kernel_rfl) (by kernel_rfl) (by kernel_rfl)) ?_
  intro W base args ds gs before hval0 hW _ _
  have hval : ∀ (j : Nat) t v, Try.f3.params[j]? = some t → args[j]? = some v → Value.okWide Try.prog W .any base t v := hval0
  have hW' := hW
  obtain ⟨p, q, hA0, hV, rfl, _, _⟩ := hW
  have hA : DataW.TrodAll enc Try.prog W 0 (fun _ => true) true Try.f3.params.toList args.toList ds p := hA0
  rw [Try.params3] at hA hval
  obtain ⟨v0, vs0, d0, ds0, p0, q0, hargs, rfl, rfl, h0, r0⟩ := trodAll_cons hA
  obtain ⟨rfl, rfl, rfl⟩ := trodAll_nil r0
  obtain rfl : args = #[v0] := by cases args; simp_all
  obtain ⟨rfl, rfl⟩ := trodVars_none hV
  obtain ⟨a0, rfl, rfl, rfl, w0⟩ := open_string Try.underlying9 (hval 0 9 v0 rfl rfl) h0
  clear hA0 hval0
  refine (walk_TokenAll a0 (by unfold maxLen at w0; exact w0) W).mono fun e W' ⟨he, hb⟩ => ?_
  subst he
  exact ⟨_, rfl, law_post (by kernel_rfl) rfl rfl rfl hW' hb⟩

/-- the statement of TokenAll -/
theorem proved_TokenAll : Rows.TokenAllSaid :=
  OpenClaim.holds_of_wide 3 Try.f3 rfl rfl rfl rfl rfl rfl rfl ⟨rfl, rfl, rfl, rfl, rfl⟩ rfl rfl rfl rfl rfl (by kernel_rfl) Try.func3 (by kernel_rfl)
    (of_decide_eq_true (by kernel_rfl)) (by unfold Func.isWrapper; first | (rw [if_pos (by decide +kernel)]; kernel_rfl) | (rw [if_neg (by decide +kernel)]; exact ⟨rfl, rfl⟩))
    (fun os started H enc _ => lifted_TokenAll os started H enc)
end Go.Proofs.Ytldgjiohigiioaa
