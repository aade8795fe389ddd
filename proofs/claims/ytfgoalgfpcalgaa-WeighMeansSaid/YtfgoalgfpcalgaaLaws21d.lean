/-
  Layer 21: the statement WeighMeans: truths can be gone on to such as make all clauses true just if at most, or at least, so many literals are true. For every input, with no condition. Own work.
-/
import Derived.Test.YtfgoalgfpcalgaaSom21
import Derived.Test.YtfgoalgfpcalgaaWeiMath2
import Derived.Test.YtfgoalgfpcalgaaNewMath
import Derived.Laws.Shifts
namespace Go.Proofs.Ytfgoalgfpcalgaa
set_option linter.unusedVariables false
set_option linter.unusedSimpArgs false
open Go.ChangeShapes Go.WideShapes Go.ChangeAt Go.RowKit

theorem clsL_len2 (x : List Int) (k next : Int) (hx : x.length ≤ 60) : (clsL x k next).length ≤ 900000 := by
  unfold clsL
  split
  · simp
  split
  · simp
  split
  · rw [none0_len]; omega
  · unfold most
    simp only [List.length_append, r1_len, r2_len, List.length_cons, List.length_nil]
    have h1 : (k - 1).toNat ≤ 60 := by omega
    have h2 : (x.length - 2) * (3 + 2 * (k - 1).toNat) ≤ 60 * 123 := Nat.mul_le_mul (by omega) (by omega)
    omega
/-- literals of the first five variables -/
def Five (xs : List Int) : Prop := xs.length ≤ 5 ∧ ∀ y ∈ xs, y ≠ 0 ∧ -5 ≤ y ∧ y ≤ 5
theorem Five.at {xs : List Int} (h : Five xs) : ∀ (j : Nat) (n : Int), xs[j]? = some n → -1000 ≤ n ∧ n ≤ 1000 ∧ n ≠ 0 := fun j n hj => by
  have := h.2 n (List.mem_of_getElem? hj)
  omega
theorem Five.not {xs : List Int} (h : Five xs) : Five (notL xs) := by
  refine ⟨by rw [notL_len]; exact h.1, fun y hy => ?_⟩
  unfold notL at hy
  obtain ⟨z, hz, rfl⟩ := List.mem_map.1 hy
  have := h.2 z hz
  omega
theorem aft_bd {xs : List Int} (h : xs.length ≤ 5) {K : Int} (hK : K ≤ 2) : 6 ≤ aft xs K 6 ∧ aft xs K 6 ≤ 14 := by
  unfold aft
  split
  · omega
  · have h1 : 1 ≤ K := by omega
    unfold sv
    have : K = 1 ∨ K = 2 := by omega
    rcases this with rfl | rfl <;> omega
theorem some_means (cv tv : Value) (xs : List Int) (ts : List Bool) (K : Int) (hK : K ≤ 2) (lo : Nat) (w : World) (hx : Five xs) (hc : RowsAt w lo cv (clsL xs K 6)) (ht : Reads w bV tv ts) (htl : ts.length = 5) :
    Calls Try.prog 15 #[cv, tv, .int .i64 (aft xs K 6 - 1)] w fun e w' => e = .returned (.bool (decide (cntL ts xs ≤ K))) ∧ Below w.heap.size w w' := by
  obtain ⟨a1, a2⟩ := aft_bd hx.1 hK
  obtain ⟨vars, hv⟩ : ∃ vars : Nat, aft xs K 6 - 1 = (vars : Int) := ⟨(aft xs K 6 - 1).toNat, by omega⟩
  rw [hv]
  have hm := cls_means (x := xs) (k := K) (next := 6) (ts := ts) (vars := vars) (by omega) (fun y hy => by have := hx.2 y hy; omega) (by omega) (fun c hc n hn => by
    rcases cls_fine xs K 6 (by omega) c hc n hn with h | ⟨y, hy, h⟩
    · omega
    · have := hx.2 y hy
      omega)
  refine (some_any cv tv (clsL xs K 6) ts vars (by omega) lo w hc (clsL_len2 _ _ _ (by have := hx.1; omega)) (clsL_row _ _ _ (by have := hx.1; omega)) ht (by omega) (by omega)).mono ?_
  rintro e w' ⟨rfl, hb⟩
  refine ⟨ret_bool ?_, hb⟩
  rw [decide_eq_decide]
  refine Iff.trans ?_ hm
  constructor
  · rintro ⟨m, h1, h2⟩
    exact ⟨m, h1, fun c hc => List.any_eq_true.1 (h2 c hc)⟩
  · rintro ⟨m, h1, h2⟩
    exact ⟨m, h1, fun c hc => List.any_eq_true.2 (h2 c hc)⟩
theorem cnt_not (ts : List Bool) : ∀ (xs : List Int), (∀ y ∈ xs, y ≠ 0) → cntL ts (notL xs) = (xs.length : Int) - cntL ts xs
  | [], _ => by simp [cntL, notL]
  | y :: r, h => by
    have ih := cnt_not ts r (fun z hz => h z (List.mem_cons_of_mem _ hz))
    unfold cntL notL at ih ⊢
    have h0 := trueB_not ts y (h y (by simp))
    simp only [List.map_cons, List.filter_cons, h0]
    cases trueB y ts <;> simp <;> omega
theorem least_bd (ts : List Bool) (xs : List Int) (K : Int) (hx : Five xs) : decide (cntL ts (notL xs) ≤ (xs.length : Int) - max ((xs.length : Int) - K) 0) = decide ((xs.length : Int) - K ≤ cntL ts xs) := by
  rw [decide_eq_decide, cnt_not ts xs (fun y hy => (hx.2 y hy).1)]
  have := cntL_bd ts xs
  omega
/-- the loop that gathers literals -/
def XRel (l : List Int) (w wr : World) (v i : Value) : Prop :=
  ∃ (k : Nat) (u : Value) (xs : List Int), u = v ∧ k ≤ l.length ∧ i = .int .i64 k ∧ xs.length = min k 5 ∧ Five xs ∧ wr.ownsRow w.heap.size 3 1 u xs.length (xs.map iV) ∧ Below w.heap.size w wr
/-- the loop that gathers truths -/
def TRel (w wr : World) (v i : Value) : Prop :=
  ∃ (k : Nat) (u : Value) (ts : List Bool), u = v ∧ k ≤ 5 ∧ i = .int .i64 k ∧ ts.length = k ∧ wr.ownsRow w.heap.size 4 1 u ts.length (ts.map bV) ∧ Below w.heap.size w wr
theorem Five.snoc {xs : List Int} (h : Five xs) (hl : xs.length < 5) (y : Int) (hy : y ≠ 0 ∧ -5 ≤ y ∧ y ≤ 5) : Five (xs ++ [y]) := by
  refine ⟨by simp; omega, fun z hz => ?_⟩
  rcases List.mem_append.1 hz with hz | hz
  · exact h.2 z hz
  · simp at hz; subst hz; exact hy
set_option maxRecDepth 100000 in
set_option maxHeartbeats 2000000 in
theorem means_at (lv : Value) (l : List Int) (k K tn : Int) (hK : (k ≤ -1 ∧ K = -1) ∨ (2 < k ∧ K = 2) ∨ (-1 < k ∧ k < 2 ∧ K = k) ∨ (k = 2 ∧ K = 2)) (w : World) (hl : Reads w iV lv l) (hwf : ∀ n ∈ l, -9223372036854775808 ≤ n ∧ n ≤ 9223372036854775807) (hk : -9223372036854775808 ≤ k ∧ k ≤ 9223372036854775807) (hn : 0 ≤ tn ∧ tn ≤ 18446744073709551615) :
    Calls Try.prog 5 #[lv, .int .i64 k, .int .u64 tn] w fun e w' => e = .returned (.bool true) ∧ Below w.heap.size w w' := by
  obtain ⟨la, lc, rfl⟩ : ∃ a c, lv = .slice a l.length c := by
    rcases hl with ⟨rfl, rfl⟩ | ⟨a, cap, rfl, _⟩
    · exact ⟨_, _, rfl⟩
    · exact ⟨_, _, rfl⟩
  have hll : (l.length : Int) ≤ 9223372036854775807 := by
    rcases hl with ⟨_, rfl⟩ | ⟨a, cap, h, h1, h2, _⟩
    · simp
    · omega
  have HL := Lib.hid hl; clear hl
  have HWF := Lib.hid hwf; clear hwf
  obtain ⟨hk1, hk2⟩ := hk
  obtain ⟨hn1, hn2⟩ := hn
  go_enter Try.func5, Try.ntmps5
  go_wp2_with fail
  go_loopw [7, 20] (fun v i wr => XRel l w wr v i) (fun _ i _ => l.length - (intOf i).toNat)
  case atStart => exact ⟨0, _, [], rfl, by omega, rfl, rfl, ⟨by simp, by simp⟩, World.ownsRow_nil _ _ _ _, Below.refl _ _⟩
  case round =>
    obtain ⟨q, v, xs, rfl, hq, rfl, hxl, hx5, hown, hb⟩ := hrel
    by_cases hlt : q < l.length
    · obtain ⟨n, hn⟩ : ∃ n, l[q]? = some n := ⟨_, List.getElem?_eq_getElem hlt⟩
      have hnb := HWF.out n (List.mem_of_getElem? hn)
      obtain ⟨n1, n2⟩ := hnb
      have hlt' : (q : Int) < l.length := by omega
      rcases HL.out with ⟨_, h⟩ | ⟨a, cap, hv, _, _, hc⟩
      · subst h; simp at hlt
      cases hv
      have hci := (hb.cell (World.block_lt_of_cell? w _ (hc q n hn))).trans (hc q n hn)
      unfold iV at hci
      clear hn hc
      by_cases h5 : q < 5
      · have h5' : (q : Int) < 5 := by omega
        have hx6 : xs.length ≤ 4 := by omega
        have hu0 : 0 ≤ IntKind.u64.wrap n := by rw [IntKind.wrap_u64]; omega
        obtain ⟨r, hr⟩ : ∃ r, (IntKind.u64.wrap n).tmod 5 = r := ⟨_, rfl⟩
        have hr0 : 0 ≤ r ∧ r ≤ 4 := by rw [← hr, Int.tmod_eq_emod_of_nonneg hu0]; omega
        obtain ⟨r0, r4⟩ := hr0
        have HX := Lib.hid hx5
        have HXL := Lib.hid hxl
        clear hx5 hxl hu0
        go_wp2_with (at_builtin
                     refine app1 rfl _ _ 22 3 rfl (.int .i64 0) 8 w.heap.size xs.length Try.underlying22 int_info rfl v _ rfl hown rfl rfl (by omega) (by omega) hb.size ?_)
        all_goals
          intro v' w' ho' hg' hb'
          go_wp2
          go_roundw
          case rel => first | exact ⟨q + 1, _, xs ++ [1 + r], rfl, by omega, by go_num, by rw [List.length_append, HXL.out]; simp; omega, HX.out.snoc (by omega) _ (by omega), by simpa [iV] using ho', hb.trans hb'⟩ | exact ⟨q + 1, _, xs ++ [-(1 + r)], rfl, by omega, by go_num, by rw [List.length_append, HXL.out]; simp; omega, HX.out.snoc (by omega) _ (by omega), by simpa [iV] using ho', hb.trans hb'⟩
          case measure => simp [intOf]; omega
      · have h5' : (5 : Int) ≤ q := by omega
        go_wp2
        go_roundw
        case rel => exact ⟨q + 1, _, xs, rfl, by omega, by go_num, by omega, hx5, hown, hb⟩
        case measure => simp [intOf]; omega
    · have hql : (l.length : Int) ≤ q := by omega
      have HX := Lib.hid hx5
      have HOWN := Lib.hid hown
      have HB := Lib.hid hb
      have hxl5 : xs.length ≤ 5 := by omega
      clear hxl
      rename World => W1
      have hK2 : K ≤ 2 := by omega
      have hK1 : -1 ≤ K := by omega
      obtain ⟨a1, a2⟩ := aft_bd hxl5 hK2
      obtain ⟨b1, b2⟩ := aft_bd (xs := notL xs) (by rw [notL_len]; exact hxl5) (K := (xs.length : Int) - max ((xs.length : Int) - K) 0) (by omega)
      have hat := fun (vx : Value) w' hs => AtMost_any vx xs K 6 (by omega) (big_bd HX.out.at) (by omega) (by omega) w' hs
      have hle := fun (vx : Value) w' hs => Least_any vx xs ((xs.length : Int) - K) 6 (by omega) HX.out.at (by omega) (by omega) (by omega) (by omega) w' hs
      have hsm := fun cv tv ts lo w hc ht htl => some_means cv tv xs ts K hK2 lo w HX.out hc ht htl
      have hsm2 := fun cv tv ts lo w hc ht htl => some_means cv tv (notL xs) ts ((xs.length : Int) - max ((xs.length : Int) - K) 0) (by omega) lo w HX.out.not hc ht htl
      have hlb := fun ts => least_bd ts xs K HX.out
      generalize aft xs K 6 = A at a1 a2 hat hsm
      generalize aft (notL xs) ((xs.length : Int) - max ((xs.length : Int) - K) 0) 6 = B at b1 b2 hle hsm2
      have HAT := Lib.hid hat
      have HLE := Lib.hid hle
      have HSM := Lib.hid hsm
      have HSM2 := Lib.hid hsm2
      have HLB := Lib.hid hlb
      clear hat hle hsm hsm2 hlb
      rcases hK with ⟨h, rfl⟩ | ⟨h, rfl⟩ | ⟨h, h', rfl⟩ | ⟨rfl, rfl⟩
      all_goals
        clear hown hb hx5
        go_wp2_with fail
        all_goals first | (exfalso; omega) | skip
        all_goals
          go_loopw [11, 47] (fun v i wr => TRel W1 wr v i) (fun _ i _ => 5 - (intOf i).toNat)
          case atStart => exact ⟨0, _, [], rfl, by omega, rfl, rfl, World.ownsRow_nil _ _ _ _, Below.refl _ _⟩
          case round =>
            obtain ⟨p, tv, ts, rfl, hp, rfl, htl, hown, hb⟩ := hrel
            by_cases hlt2 : p < 5
            · have hlt2' : (p : Int) < 5 := by omega
              obtain ⟨bb, hbb⟩ : ∃ bb, (bits BinOp.and IntKind.u64 (tn / 2 ^ p) 1 == 1) = bb := ⟨_, rfl⟩
              go_wp2_with (at_builtin
                           refine app1 rfl _ _ 31 4 rfl (.bool false) 1 W1.heap.size ts.length Try.underlying31 bool_info rfl tv _ rfl hown rfl rfl (by omega) (by omega) hb.size ?_)
              intro v' w' ho' hg' hb'
              go_wp2
              go_roundw
              case rel => exact ⟨p + 1, _, ts ++ [bb], rfl, by omega, by go_num, by simp [htl], by simpa [bV, htl] using ho', hb.trans hb'⟩
              case measure => simp [intOf]; omega
            · obtain rfl : p = 5 := by omega
              have hr5 : Reads wr bV tv ts := reads_own (base := W1.heap.size) (e := 4) hown
              have hs5 : SlOf wr iV v xs := (SlOf.of_own (f := iV) (xs := xs) HOWN.out).below hb (Nat.le_refl _)
              have HR := Lib.hid hr5
              have HS := Lib.hid hs5
              have HB1 := Lib.hid (HB.out.trans (hb.mono HB.out.size))
              obtain ⟨va, vc, rfl⟩ : ∃ a c, v = .slice a xs.length c := by
                obtain ⟨a, c, h, _⟩ := hs5
                exact ⟨a, c, h⟩
              clear hown hb hr5 hs5
              go_wp2_with fail
              refine (HAT.out _ _ HS.out).mono ?_
              rintro e w2 ⟨cv, rfl, hr2, hb2⟩
              have HR2 := Lib.hid hr2
              have HB2 := Lib.hid (HB1.out.trans (hb2.mono HB1.out.size))
              have HS2 := Lib.hid (HS.out.below hb2 (Nat.le_refl _))
              have HRD2 := Lib.hid (HR.out.below hb2 (Nat.le_refl _))
              clear hr2 hb2
              have HLBT := Lib.hid (HLB.out ts)
              obtain ⟨c0, c1⟩ := cntL_bd ts xs
              have HCNT := Lib.hid (Count_any _ _ xs ts w2 HS2.out (by omega) HX.out.at HRD2.out (by omega))
              have HTL := Lib.hid htl
              have HSMT := Lib.hid (fun cv tv lo w hc ht => HSM.out cv tv ts lo w hc ht htl)
              have HSMT2 := Lib.hid (fun cv tv lo w hc ht => HSM2.out cv tv ts lo w hc ht htl)
              generalize cntL ts xs = cn at HLBT c0 c1 HCNT HSMT
              go_wp2_with fail
              refine HCNT.out.mono ?_
              rintro e w3 ⟨rfl, rfl⟩
              go_wp2_with fail
              refine (HSMT.out _ _ _ _ HR2.out HRD2.out).mono ?_
              rintro e w4 ⟨rfl, hb4⟩
              have HB4 := Lib.hid (HB2.out.trans (hb4.mono HB2.out.size))
              have HS4 := Lib.hid (HS2.out.below hb4 (Nat.le_refl _))
              have HRD4 := Lib.hid (HRD2.out.below hb4 (Nat.le_refl _))
              clear hb4
              go_wp2_with fail
              refine (HLE.out _ _ HS4.out).mono ?_
              rintro e w5 ⟨dv, rfl, hr5, hb5⟩
              have HR5 := Lib.hid hr5
              have HB5 := Lib.hid (HB4.out.trans (hb5.mono HB4.out.size))
              have HRD5 := Lib.hid (HRD4.out.below hb5 (Nat.le_refl _))
              clear hr5 hb5
              go_wp2_with fail
              refine (HSMT2.out _ _ _ _ HR5.out HRD5.out).mono ?_
              rintro e w6 ⟨rfl, hb6⟩
              rw [HLBT.out]
              have HB6 := Lib.hid (HB5.out.trans (hb6.mono HB5.out.size))
              clear hb6
              go_wp2_with fail
              refine (lives21 _).mono ?_
              rintro e w7 ⟨rfl, hb7⟩
              go_wp2
              go_ret
              exact ⟨rfl, HB6.out.trans (hb7.mono HB6.out.size)⟩
theorem walk_WeighMeans (lv : Value) (l : List Int) (k tn : Int) (w : World) (hl : Reads w iV lv l) (hwf : ∀ n ∈ l, -9223372036854775808 ≤ n ∧ n ≤ 9223372036854775807) (hk : -9223372036854775808 ≤ k ∧ k ≤ 9223372036854775807) (hn : 0 ≤ tn ∧ tn ≤ 18446744073709551615) :
    Calls Try.prog 5 #[lv, .int .i64 k, .int .u64 tn] w fun e w' => e = .returned (.bool true) ∧ Below w.heap.size w w' := by
  by_cases h1 : k ≤ -1
  · exact means_at lv l k (-1) tn (.inl ⟨h1, rfl⟩) w hl hwf hk hn
  by_cases h2 : 2 < k
  · exact means_at lv l k 2 tn (.inr (.inl ⟨h2, rfl⟩)) w hl hwf hk hn
  by_cases h3 : k = 2
  · exact means_at lv l k 2 tn (.inr (.inr (.inr ⟨h3, rfl⟩))) w hl hwf hk hn
  exact means_at lv l k k tn (.inr (.inr (.inl ⟨by omega, by omega, rfl⟩))) w hl hwf hk hn

set_option maxRecDepth 100000 in
theorem lifted_WeighMeans (os : Os) (started : os.Started) (H : Type) (enc : TypeId × Value → H) :
    ReturnsInHanded {} Try.checked os 5 .any (Rows.weighMeansSpec.pre6 enc Try.prog Try.f5 Rows.weighMeansRow.domain false) (Rows.weighMeansSpec.post enc Try.prog Try.f5 false true false false) := by
  refine returnsInHanded_of_change (C := Try.checked) own_knob started (by kernel_rfl) Try.func5
    (ChangeSpec.witness6 (enc := enc) (C := Try.checked) false ⟨#[], #[.slice none 0 0, .int .i64 0, .int .u64 0], []⟩ 8 (by kernel_rfl) (by kernel_rfl) (by kernel_rfl) (by kernel_rfl)) ?_
  intro W base args ds gs before hval0 hW _ _
  have hval : ∀ (j : Nat) t v, Try.f5.params[j]? = some t → args[j]? = some v → Value.okWide Try.prog W .any base t v := hval0
  have hW' := hW
  obtain ⟨p, q, hA0, hV, rfl, _, _⟩ := hW
  have hA : DataW.TrodAll enc Try.prog W 0 (fun _ => true) true Try.f5.params.toList args.toList ds p := hA0
  rw [Try.params5] at hA hval
  obtain ⟨v0, vs0, d0, ds0, p0, q0, hargs, rfl, rfl, h0, r0⟩ := trodAll_cons hA
  obtain ⟨v1, vs1, d1, ds1, p1, q1, rfl, rfl, rfl, h1, r1⟩ := trodAll_cons r0
  obtain ⟨v2, vs2, d2, ds2, p2, q2, rfl, rfl, rfl, h2, r2⟩ := trodAll_cons r1
  obtain ⟨rfl, rfl, rfl⟩ := trodAll_nil r2
  obtain rfl : args = #[v0, v1, v2] := by cases args; simp_all
  obtain ⟨rfl, rfl⟩ := trodVars_none hV
  obtain ⟨l0, g0, w0⟩ := open_reads_ints (hval 0 22 v0 rfl rfl) h0
  obtain ⟨a1, rfl, rfl, rfl, w1⟩ := open_int Try.underlying3 (hval 1 3 v1 rfl rfl) h1
  obtain ⟨a2, rfl, rfl, rfl, w2⟩ := open_int Try.underlying23 (hval 2 23 v2 rfl rfl) h2
  clear hA0 hval0
  refine (walk_WeighMeans v0 l0 a1 a2 W g0 w0 (wf_i64 w1) (wf_u64 w2)).mono fun e W' ⟨he, hb⟩ => ?_
  subst he
  exact ⟨_, rfl, law_post (by kernel_rfl) rfl rfl rfl hW' hb⟩

/-- the statement of WeighMeans -/
theorem proved_WeighMeans : Rows.WeighMeansSaid :=
  OpenClaim.holds_of_wide 5 Try.f5 rfl rfl rfl rfl rfl rfl rfl ⟨rfl, rfl, rfl, rfl, rfl⟩ rfl rfl rfl rfl rfl (by kernel_rfl) Try.func5 (by kernel_rfl)
    (of_decide_eq_true (by kernel_rfl)) (by unfold Func.isWrapper; first | (rw [if_pos (by decide +kernel)]; kernel_rfl) | (rw [if_neg (by decide +kernel)]; exact ⟨rfl, rfl⟩))
    (fun os started H enc _ => lifted_WeighMeans os started H enc)
end Go.Proofs.Ytfgoalgfpcalgaa
