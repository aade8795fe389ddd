/-
  Layer 2: the statement TokenPrints, where what it reads is of bulk at most 1048576. Own work.
-/
import Derived.Test.YtldgjiohigiioaaLaws02a
import Derived.Test.YtldgjiohigiioaaRPrint2
import Derived.Test.YtldgjiohigiioaaOpenTB
import Derived.JoinedCond
namespace Go.Proofs.Ytldgjiohigiioaa
set_option linter.unusedVariables false
set_option linter.unusedSimpArgs false
open Go.ChangeShapes Go.WideShapes Go.ChangeAt Go.RowKit
open Go.ChangeMaps (open_string shut_string)

theorem rd_take {α : Type} {sz : Nat} {R : Addr → α → Prop} {a : Addr} {n c m : Nat} {l : List α} (h : RdSl sz R (.slice (some a) n c) l) (hm : m ≤ l.length) : RdSl sz R (.slice (some a) m c) (l.take m) ∧ l.length ≤ c ∧ c ≤ 9223372036854775807 := by
  rcases h with ⟨h, _⟩ | ⟨a', cap, h, h1, h2, h3⟩
  · cases h
  · simp only [Value.slice.injEq, Option.some.injEq] at h
    obtain ⟨rfl, rfl, rfl⟩ := h
    refine ⟨.inr ⟨a, c, by rw [List.length_take, Nat.min_eq_left hm], by rw [List.length_take]; omega, h2, fun i x hx => ?_⟩, h1, h2⟩
    refine h3 i x ?_
    rw [List.getElem?_take] at hx
    split at hx
    · exact hx
    · simp at hx
theorem sum_take {α : Type} (f : α → Nat) : ∀ (l : List α) (m : Nat), ((l.take m).map f).sum ≤ (l.map f).sum
  | [], m => by simp
  | x :: l, 0 => by simp
  | x :: l, m + 1 => by
    have := sum_take f l m
    simp only [List.take_succ_cons, List.map_cons, List.sum_cons]
    omega
theorem mem_sum {α : Type} (f : α → Nat) : ∀ (l : List α) (x : α), x ∈ l → f x ≤ (l.map f).sum
  | y :: l, x, h => by
    rw [List.map_cons, List.sum_cons]
    rcases List.mem_cons.1 h with h | h
    · subst h; omega
    · have := mem_sum f l x h; omega
theorem atP_len : ∀ ats : List At2, (ats.flatMap atP).length ≤ 6 * (ats.map wtA).sum + 5 * ats.length
  | [] => by simp
  | p :: ats => by
    have h1 := atP_len ats
    have h2 := escS_len true p.2
    simp only [List.flatMap_cons, List.length_append, List.map_cons, List.sum_cons, List.length_cons, atP, wtA, List.length_nil] at h1 ⊢
    omega
theorem prT_len (x : Tm) (h : x.ats.length ≤ 20) : (prT x.k x.n x.ats x.t).length ≤ 6 * wtT x + 120 := by
  have h1 := atP_len x.ats
  have h2 := escS_len false x.t
  unfold prT wtT
  repeat' split
  all_goals ((try simp only [tagP, List.length_append, List.length_cons, List.length_nil]); omega)
theorem prM_len : ∀ l : List Tm, (∀ x ∈ l, x.ats.length ≤ 20) → (prM l).length ≤ 6 * (l.map wtT).sum + 120 * l.length
  | [], _ => by simp [prM]
  | x :: l, h => by
    have h1 := prM_len l fun y hy => h y (List.mem_cons_of_mem _ hy)
    have h2 := prT_len x (h x List.mem_cons_self)
    have e : prM (x :: l) = prT x.k x.n x.ats x.t ++ prM l := rfl
    rw [e, List.length_append, List.map_cons, List.sum_cons, List.length_cons]
    omega
set_option maxRecDepth 100000 in
set_option maxHeartbeats 4000000 in
theorem walk_TokenPrints (v : Value) (l : List Tm) (w : World) (hr : RdTs w v l) (hS : (l.map wtT).sum ≤ 1048576) :
    Calls Try.prog 4 #[v] w fun e w' => e = .returned (.bool true) ∧ Below w.heap.size w w' := by
  have HLV := Lib.hid (fun w => lives02 w)
  obtain ⟨va, vc, hv⟩ := RdSl.shape hr
  subst hv
  have hla := RdSl.len hr
  have hlaI : (l.length : Int) ≤ 9223372036854775807 := by omega
  go_enter Try.func4, Try.ntmps4
  by_cases h50 : 50 < l.length
  · obtain ⟨x, hx⟩ : ∃ x, l[0]? = some x := ⟨_, List.getElem?_eq_getElem (by omega)⟩
    obtain ⟨a, ea, _⟩ := RdSl.elem hr hx
    subst ea
    obtain ⟨hr2, hc1, hc2⟩ := rd_take hr (show 50 ≤ l.length by omega)
    have HR := Lib.hid (show RdTs w (.slice (some a) 50 vc) (l.take 50) from hr2)
    have HS := Lib.hid (Nat.le_trans (sum_take wtT l 50) hS)
    have HN := Lib.hid (show (l.take 50).length = 50 by rw [List.length_take]; omega)
    have h50I : (50 : Int) < (l.length : Int) := by omega
    have hcI : (50 : Int) ≤ (vc : Int) := by omega
    have hcI2 : (vc : Int) ≤ 9223372036854775807 := by omega
    have hcN : 50 ≤ vc := by omega
    generalize l.take 50 = L at HR HS HN
    have HN50 := Lib.hid (show L.length ≤ 50 by rw [HN.out]; exact Nat.le_refl _)
    clear hr hr2 hS hx hc1 hc2
    go_upto_region 3 with fail
    clear h50 h50I hla hlaI
    go_wp2_with fail
    go_loopw [12] (fun i wr => ∃ q : Nat, q ≤ L.length ∧ i = .int .i64 q ∧ (∀ x ∈ L.take q, x.t.length ≤ 2000 ∧ x.ats.length ≤ 20) ∧ Below w.heap.size w wr) (fun i _ => L.length - (intOf i).toNat)
    case atStart => exact ⟨0, by omega, rfl, by simp, Below.refl _ _⟩
    case round =>
      obtain ⟨q, hq, rfl, hok, hbr⟩ := hrel
      have HBR := Lib.hid hbr
      have HOK := Lib.hid hok
      clear hbr hok
      have hn50 := HN.out
      by_cases hlt : q < L.length
      · obtain ⟨x, hx⟩ : ∃ x, L[q]? = some x := ⟨_, List.getElem?_eq_getElem hlt⟩
        obtain ⟨bb, e1, ta, ⟨x0, x1, x2, x3, x4, x5, x6⟩, hats⟩ := RdSl.elem (HR.out.below HBR.out (Nat.le_refl _)) hx
        obtain rfl : a = bb := Option.some.inj e1
        have HX := Lib.hid hx
        obtain ⟨k, n, ats, t, p0, p1, p2⟩ := x
        dsimp only at x0 x1 x2 x3 x4 x5 x6 hats
        obtain ⟨ua, uc, hua⟩ := RdSl.shape hats
        subst hua
        obtain ⟨wb, hwb⟩ : ∃ wb, wb = wr.alloc (.cells #[.int .i64 k, .string (str n), .slice ua ats.length uc, .string (str t), .int .i64 p0, .int .i64 p1, .int .i64 p2] 34) := ⟨_, rfl⟩
        have hbb : Below wr.heap.size wr wb := by rw [hwb]; exact (Below.refl _ _).alloc (Nat.le_refl _) _
        have hrow : wb.heap[wr.heap.size]? = some (.cells #[.int .i64 k, .string (str n), .slice ua ats.length uc, .string (str t), .int .i64 p0, .int .i64 p1, .int .i64 p2] 34 (0, 0)) := by rw [hwb]; exact heap_alloc_new wr _
        have HBWB := Lib.hid (HBR.out.trans (hbb.mono HBR.out.size))
        have HWB := Lib.hid hwb
        have hqI : (q : Int) < 50 := by omega
        clear hbb hwb hx hats e1
        go_upto_region 6 with fail
        rw [← HWB.out]
        generalize wr.heap.size = KB at hrow ⊢
        clear x0 x1 x2 x3 x4 x5 x6
        have z2 : wb.cell? ⟨KB, 2, none⟩ = some (.slice ua ats.length uc) := by rw [cell_of_row wb _ 2 _ _ (0, 0) hrow]; rfl
        have z3 : wb.cell? ⟨KB, 3, none⟩ = some (.string (str t)) := by rw [cell_of_row wb _ 3 _ _ (0, 0) hrow]; rfl
        have htz := size_str t
        clear hrow
        by_cases h1 : 2000 < t.length
        · have h1I : (2000 : Int) < ((str t).size : Int) := by omega
          clear h1 htz
          go_wp2_with fail
          refine (HLV.out _).mono ?_
          rintro e w3 ⟨rfl, hb3⟩
          have HB3 := Lib.hid (HBWB.out.trans (hb3.mono HBWB.out.size))
          clear hb3
          go_wp2
          go_ret
          exact ⟨rfl, HB3.out⟩
        have h1I : ((str t).size : Int) ≤ 2000 := by omega
        by_cases h2 : 20 < ats.length
        · have h2I : (20 : Int) < (ats.length : Int) := by omega
          clear h1 h2 htz
          go_wp2_with fail
          refine (HLV.out _).mono ?_
          rintro e w3 ⟨rfl, hb3⟩
          have HB3 := Lib.hid (HBWB.out.trans (hb3.mono HBWB.out.size))
          clear hb3
          go_wp2
          go_ret
          exact ⟨rfl, HB3.out⟩
        have h2I : (ats.length : Int) ≤ 20 := by omega
        have HOK2 := Lib.hid (show ∀ x ∈ L.take (q + 1), x.t.length ≤ 2000 ∧ x.ats.length ≤ 20 from fun y hy => by
          rw [take_snoc _ q _ HX.out, List.mem_append] at hy
          rcases hy with hy | hy
          · exact HOK.out y hy
          · simp at hy; rw [hy]; exact ⟨by dsimp only; omega, by dsimp only; omega⟩)
        clear h1 h2 htz
        go_wp2
        go_roundw
        case rel => exact ⟨q + 1, by omega, by go_num, HOK2.out, HBWB.out⟩
        case measure => simp [intOf]; omega
      · have hle : 50 ≤ (q : Int) := by omega
        have HOK2 := Lib.hid (show ∀ x ∈ L, x.t.length ≤ 2000 ∧ x.ats.length ≤ 20 from fun y hy => HOK.out y (by rw [List.take_of_length_le (by omega)]; exact hy))
        have HRW := Lib.hid (HR.out.below HBR.out (Nat.le_refl _))
        have HXS := Lib.hid (show ∀ x ∈ L, x.t.length ≤ 2000000 ∧ ∀ p ∈ x.ats, p.2.length ≤ 2000000 from fun y hy => by
          have h1 := HOK2.out y hy
          have h2 := mem_sum wtT L y hy
          have h3 := HS.out
          refine ⟨by omega, fun p hp => ?_⟩
          have h4 := mem_sum wtA y.ats p hp
          simp only [wtT, wtA] at h2 h4
          omega)
        have HPL := Lib.hid (show (prM L).length ≤ 100000000 by
          have h1 := prM_len L fun y hy => (HOK2.out y hy).2
          have h2 := HS.out
          have h3 := HN50.out
          omega)
        have HP1 := Lib.hid (Print_any _ L wr HRW.out HXS.out HPL.out)
        have HP2 := Lib.hid (fun w1 (hb : Below wr.heap.size wr w1) => refPrint_any _ L w1 (HRW.out.below hb (Nat.le_refl _)) HXS.out HPL.out)
        clear hq hlt
        go_wp2_with fail
        refine HP1.out.mono ?_
        rintro e w3 ⟨rfl, hb3⟩
        have HB3 := Lib.hid hb3
        clear hb3
        go_wp2_with fail
        refine (HP2.out _ HB3.out).mono ?_
        rintro e w4 ⟨rfl, hb4⟩
        have HB4 := Lib.hid (HBR.out.trans ((HB3.out.trans (hb4.mono HB3.out.size)).mono HBR.out.size))
        clear hb4
        have heq : ((str (prM L)).toList == (str (prM L)).toList) = true := by simp
        go_wp2_with fail
        refine (HLV.out _).mono ?_
        rintro e w5 ⟨rfl, hb5⟩
        have HB5 := Lib.hid (HB4.out.trans (hb5.mono HB4.out.size))
        clear hb5
        go_wp2
        go_ret
        exact ⟨rfl, HB5.out⟩
  · have h50I : (l.length : Int) ≤ 50 := by omega
    have HR := Lib.hid hr
    have HS := Lib.hid hS
    have HN50 := Lib.hid (show l.length ≤ 50 by omega)
    clear hr hS
    go_upto_region 3 with fail
    go_wp2_with fail
    go_loopw [12] (fun i wr => ∃ q : Nat, q ≤ l.length ∧ i = .int .i64 q ∧ (∀ x ∈ l.take q, x.t.length ≤ 2000 ∧ x.ats.length ≤ 20) ∧ Below w.heap.size w wr) (fun i _ => l.length - (intOf i).toNat)
    case atStart => exact ⟨0, by omega, rfl, by simp, Below.refl _ _⟩
    case round =>
      obtain ⟨q, hq, rfl, hok, hbr⟩ := hrel
      have HBR := Lib.hid hbr
      have HOK := Lib.hid hok
      clear hbr hok
      by_cases hlt : q < l.length
      · obtain ⟨x, hx⟩ : ∃ x, l[q]? = some x := ⟨_, List.getElem?_eq_getElem hlt⟩
        obtain ⟨bb, e1, ta, ⟨x0, x1, x2, x3, x4, x5, x6⟩, hats⟩ := RdSl.elem (HR.out.below HBR.out (Nat.le_refl _)) hx
        subst e1
        have HX := Lib.hid hx
        obtain ⟨k, n, ats, t, p0, p1, p2⟩ := x
        dsimp only at x0 x1 x2 x3 x4 x5 x6 hats
        obtain ⟨ua, uc, hua⟩ := RdSl.shape hats
        subst hua
        obtain ⟨wb, hwb⟩ : ∃ wb, wb = wr.alloc (.cells #[.int .i64 k, .string (str n), .slice ua ats.length uc, .string (str t), .int .i64 p0, .int .i64 p1, .int .i64 p2] 34) := ⟨_, rfl⟩
        have hbb : Below wr.heap.size wr wb := by rw [hwb]; exact (Below.refl _ _).alloc (Nat.le_refl _) _
        have hrow : wb.heap[wr.heap.size]? = some (.cells #[.int .i64 k, .string (str n), .slice ua ats.length uc, .string (str t), .int .i64 p0, .int .i64 p1, .int .i64 p2] 34 (0, 0)) := by rw [hwb]; exact heap_alloc_new wr _
        have HBWB := Lib.hid (HBR.out.trans (hbb.mono HBR.out.size))
        have HWB := Lib.hid hwb
        have hqI : (q : Int) < (l.length : Int) := by omega
        clear hbb hwb hx hats
        go_upto_region 6 with fail
        rw [← HWB.out]
        generalize wr.heap.size = KB at hrow ⊢
        clear x0 x1 x2 x3 x4 x5 x6
        have z2 : wb.cell? ⟨KB, 2, none⟩ = some (.slice ua ats.length uc) := by rw [cell_of_row wb _ 2 _ _ (0, 0) hrow]; rfl
        have z3 : wb.cell? ⟨KB, 3, none⟩ = some (.string (str t)) := by rw [cell_of_row wb _ 3 _ _ (0, 0) hrow]; rfl
        have htz := size_str t
        clear hrow
        by_cases h1 : 2000 < t.length
        · have h1I : (2000 : Int) < ((str t).size : Int) := by omega
          clear h1 htz
          go_wp2_with fail
          refine (HLV.out _).mono ?_
          rintro e w3 ⟨rfl, hb3⟩
          have HB3 := Lib.hid (HBWB.out.trans (hb3.mono HBWB.out.size))
          clear hb3
          go_wp2
          go_ret
          exact ⟨rfl, HB3.out⟩
        have h1I : ((str t).size : Int) ≤ 2000 := by omega
        by_cases h2 : 20 < ats.length
        · have h2I : (20 : Int) < (ats.length : Int) := by omega
          clear h1 h2 htz
          go_wp2_with fail
          refine (HLV.out _).mono ?_
          rintro e w3 ⟨rfl, hb3⟩
          have HB3 := Lib.hid (HBWB.out.trans (hb3.mono HBWB.out.size))
          clear hb3
          go_wp2
          go_ret
          exact ⟨rfl, HB3.out⟩
        have h2I : (ats.length : Int) ≤ 20 := by omega
        have HOK2 := Lib.hid (show ∀ x ∈ l.take (q + 1), x.t.length ≤ 2000 ∧ x.ats.length ≤ 20 from fun y hy => by
          rw [take_snoc _ q _ HX.out, List.mem_append] at hy
          rcases hy with hy | hy
          · exact HOK.out y hy
          · simp at hy; rw [hy]; exact ⟨by dsimp only; omega, by dsimp only; omega⟩)
        clear h1 h2 htz
        go_wp2
        go_roundw
        case rel => exact ⟨q + 1, by omega, by go_num, HOK2.out, HBWB.out⟩
        case measure => simp [intOf]; omega
      · have hle : (l.length : Int) ≤ (q : Int) := by omega
        have HOK2 := Lib.hid (show ∀ x ∈ l, x.t.length ≤ 2000 ∧ x.ats.length ≤ 20 from fun y hy => HOK.out y (by rw [List.take_of_length_le (by omega)]; exact hy))
        have HRW := Lib.hid (HR.out.below HBR.out (Nat.le_refl _))
        have HXS := Lib.hid (show ∀ x ∈ l, x.t.length ≤ 2000000 ∧ ∀ p ∈ x.ats, p.2.length ≤ 2000000 from fun y hy => by
          have h1 := HOK2.out y hy
          have h2 := mem_sum wtT l y hy
          have h3 := HS.out
          refine ⟨by omega, fun p hp => ?_⟩
          have h4 := mem_sum wtA y.ats p hp
          simp only [wtT, wtA] at h2 h4
          omega)
        have HPL := Lib.hid (show (prM l).length ≤ 100000000 by
          have h1 := prM_len l fun y hy => (HOK2.out y hy).2
          have h2 := HS.out
          have h3 := HN50.out
          omega)
        have HP1 := Lib.hid (Print_any _ l wr HRW.out HXS.out HPL.out)
        have HP2 := Lib.hid (fun w1 (hb : Below wr.heap.size wr w1) => refPrint_any _ l w1 (HRW.out.below hb (Nat.le_refl _)) HXS.out HPL.out)
        clear hq hlt
        go_wp2_with fail
        refine HP1.out.mono ?_
        rintro e w3 ⟨rfl, hb3⟩
        have HB3 := Lib.hid hb3
        clear hb3
        go_wp2_with fail
        refine (HP2.out _ HB3.out).mono ?_
        rintro e w4 ⟨rfl, hb4⟩
        have HB4 := Lib.hid (HBR.out.trans ((HB3.out.trans (hb4.mono HB3.out.size)).mono HBR.out.size))
        clear hb4
        have heq : ((str (prM l)).toList == (str (prM l)).toList) = true := by simp
        go_wp2_with fail
        refine (HLV.out _).mono ?_
        rintro e w5 ⟨rfl, hb5⟩
        have HB5 := Lib.hid (HB4.out.trans (hb5.mono HB4.out.size))
        clear hb5
        go_wp2
        go_ret
        exact ⟨rfl, HB5.out⟩

set_option maxRecDepth 100000 in
theorem lifted_TokenPrints (os : Os) (started : os.Started) (H : Type) (enc : TypeId × Value → H) (F : Stop.Interp) :
    ReturnsInHanded {} Try.checked os 4 .any ((Rows.OpenSpec.upto Rows.tokenPrintsSpec).pre6 enc Try.prog Try.f4 Rows.tokenPrintsUptoRow.domain false) (((Rows.OpenSpec.upto Rows.tokenPrintsSpec).at F).post enc Try.prog Try.f4 false true false false) := by
  refine returnsInHanded_of_cond (C := Try.checked) (s := Rows.OpenSpec.upto Rows.tokenPrintsSpec) (k := Rows.uptoSmall) rfl own_knob started (by kernel_rfl) Try.func4
    (OpenSpec.witness (enc := enc) (C := Try.checked) (s := Rows.OpenSpec.upto Rows.tokenPrintsSpec) (k := Rows.uptoSmall) rfl false ⟨#[], #[.slice none 0 0], []⟩ 8 (by kernel_rfl) (by kernel_rfl) (by kernel_rfl)
      (x := ([.nil], [], [])) (by kernel_rfl) rfl (by kernel_rfl)) ?_
  intro W base args ds gs before hval0 hW _ hk _
  have hval : ∀ (j : Nat) t v, Try.f4.params[j]? = some t → args[j]? = some v → Value.okWide Try.prog W .any base t v := hval0
  have hW' := hW
  obtain ⟨p, q, hA0, hV, rfl, _, _⟩ := hW
  have hA : DataW.TrodAll enc Try.prog W 0 (fun _ => true) true Try.f4.params.toList args.toList ds p := hA0
  rw [Try.params4] at hA hval
  obtain ⟨v0, vs0, d0, ds0, p0, q0, hargs, rfl, rfl, h0, r0⟩ := trodAll_cons hA
  obtain ⟨rfl, rfl, rfl⟩ := trodAll_nil r0
  obtain rfl : args = #[v0] := by cases args; simp_all
  obtain ⟨rfl, rfl⟩ := trodVars_none hV
  obtain ⟨l0, g0, w0⟩ := open_tokensB (hval 0 23 v0 rfl rfl) h0
  have hb : Rows.uptoBulk d0 ≤ 1048576 := by
    have h1 : Rows.uptoBulkAll ([d0] ++ ([] : List (DataW H))) ≤ 1048576 := by simpa [Rows.uptoSmall] using hk
    simpa [Rows.uptoBulkAll] using h1
  clear hA0 hval0
  refine (walk_TokenPrints v0 l0 W g0 (by omega)).mono fun e W' ⟨he, hb⟩ => ?_
  subst he
  exact ⟨_, rfl, law_post (by kernel_rfl) rfl rfl rfl hW' hb⟩

/-- the statement of TokenPrints, its second form -/
theorem proved_TokenPrints : Rows.TokenPrintsUptoSaid :=
  OpenClaim.holds_of_cond 4 Try.f4 rfl rfl rfl rfl rfl rfl rfl ⟨rfl, rfl, rfl, rfl, rfl⟩ rfl rfl rfl rfl rfl (by kernel_rfl) Try.func4 (by kernel_rfl)
    (of_decide_eq_true (by kernel_rfl)) (by unfold Func.isWrapper; first | (rw [if_pos (by decide +kernel)]; kernel_rfl) | (rw [if_neg (by decide +kernel)]; exact ⟨rfl, rfl⟩))
    (fun os started H enc _ F => lifted_TokenPrints os started H enc F)
end Go.Proofs.Ytldgjiohigiioaa
