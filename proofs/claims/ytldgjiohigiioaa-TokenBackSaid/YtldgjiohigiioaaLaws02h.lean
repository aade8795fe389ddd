/-
  Layer 2: the statement TokenBack: for every text. Own work.
-/
import Derived.Test.YtldgjiohigiioaaLaws02a
import Derived.Test.YtldgjiohigiioaaJoin2
import Derived.Test.YtldgjiohigiioaaSame2
namespace Go.Proofs.Ytldgjiohigiioaa
set_option linter.unusedVariables false
set_option linter.unusedSimpArgs false
open Go.ChangeShapes Go.WideShapes Go.ChangeAt Go.RowKit
open Go.ChangeMaps (open_string shut_string)

theorem gd_small {b : Bool} {k : Int} {n t : List UInt8} {ats : List At2} (h : Gd b k n ats t) : t.length ≤ (prT k n ats t).length ∧ ∀ p ∈ ats, p.2.length ≤ (prT k n ats t).length := by
  have key : ∀ p ∈ ats, p.2.length ≤ (tagP n ats).length := fun p hp => by
    obtain ⟨l1, l2, rfl⟩ := List.append_of_mem hp
    have := esc_ge true p.2
    simp only [tagP, List.flatMap_append, List.flatMap_cons, List.length_append, List.length_cons, atP]
    omega
  rcases h with ⟨rfl, rfl, rfl, _⟩ | ⟨rfl, rfl, rfl, _⟩ | ⟨rfl, rfl, rfl, _⟩ | ⟨rfl, _, rfl, rfl⟩ | ⟨hk, _, _, _, rfl⟩
  · exact ⟨esc_ge false t, by simp⟩
  · exact ⟨by show t.length ≤ (60 :: 33 :: 45 :: 45 :: (t ++ [45, 45, 62])).length; simp; omega, by simp⟩
  · exact ⟨by show t.length ≤ (60 :: 63 :: 120 :: 109 :: 108 :: (t ++ [63, 62])).length; simp; omega, by simp⟩
  · exact ⟨by simp, by simp⟩
  · refine ⟨by simp, fun p hp => ?_⟩
    have := key p hp
    rcases hk with rfl | rfl
    · show p.2.length ≤ (tagP n ats ++ [62]).length
      rw [List.length_append]; omega
    · show p.2.length ≤ (tagP n ats ++ [47, 62]).length
      rw [List.length_append]; omega
theorem mem_pr : ∀ {l : List Tm} {x : Tm}, x ∈ l → (prT x.k x.n x.ats x.t).length ≤ (prM l).length
  | y :: l, x, h => by
    have e : prM (y :: l) = prT y.k y.n y.ats y.t ++ prM l := rfl
    rw [e, List.length_append]
    rcases List.mem_cons.1 h with rfl | h
    · omega
    · have := mem_pr h; omega
theorem small_all {l : List UInt8} {ts : List Tk} {r : List UInt8} (h : allM l = .ok ts r) (hp : (prM (ts.map (Tk.mem l))).length ≤ 12000) : ∀ x ∈ ts.map (Tk.mem l), x.t.length ≤ 2000000 ∧ ∀ p ∈ x.ats, p.2.length ≤ 2000000 := by
  intro x hx
  have hm := mem_pr hx
  obtain ⟨q, hq, rfl⟩ := List.mem_map.1 hx
  obtain ⟨i, hi⟩ := List.getElem?_of_mem hq
  have hs := gd_small ((chain_gd ts (all_chain h) (Nat.le_refl _)).2 i q hi)
  have hm : (prT q.k q.n q.ats q.t).length ≤ _ := hm
  exact ⟨by have := hs.1; show q.t.length ≤ _; omega, fun p hp => by have := hs.2 p hp; omega⟩
theorem chain_many {l : List UInt8} : ∀ (ts : List Tk) {r : List UInt8}, Chain l r ts → ts.length ≤ r.length
  | [], r, _ => by simp
  | t :: ts, r, ⟨c, r1, r2, hr, hp, hc⟩ => by
    subst hr
    have := chain_many ts hc
    have := piece_len hp
    simp only [List.length_cons]
    omega
set_option maxRecDepth 100000 in
set_option maxHeartbeats 2000000 in
theorem walk_TokenBack (s : ByteArray) (hs : s.size ≤ 9223372036854775807) (w : World) :
    Calls Try.prog 5 #[.string s] w fun e w' => e = .returned (.bool true) ∧ Below w.heap.size w w' := by
  have HLV := Lib.hid (fun w => lives02 w)
  go_enter Try.func5, Try.ntmps5
  go_wp2_with fail
  refine (cut02_any s hs w).mono ?_
  rintro e w1 ⟨l, rfl, hl, rfl⟩
  go_wp2_with fail
  refine (all_two l (by omega) w1).mono ?_
  rintro e w2 ⟨hb2, ⟨c, r, hM, rfl⟩ | ⟨ts, r, a, cp, hM, rfl, hr⟩⟩
  · have HNE := Lib.hid (all_ne hM)
    have hne : (c != 0) = true := by simpa using HNE.out
    generalize lineS (preO l r) = li
    generalize colS (preO l r) = co
    generalize ((l.length - r.length : Nat) : Int) = o
    obtain ⟨w3, hw3⟩ : ∃ w3, w3 = w2.alloc (.cells #[.int .i64 o, .int .i64 li, .int .i64 co] 26) := ⟨_, rfl⟩
    have hb23 : Below w2.heap.size w2 w3 := by rw [hw3]; exact (Below.refl _ _).alloc (Nat.le_refl _) _
    have HB3 := Lib.hid (hb2.trans (hb23.mono hb2.size))
    have HW3 := Lib.hid hw3
    clear hw3 hb23 hb2 hM hl
    go_upto_region 2 with fail
    rw [← HW3.out]
    generalize w2.heap.size = PB
    go_wp2_with fail
    refine (HLV.out _).mono ?_
    rintro e w7 ⟨rfl, hb7⟩
    have HB7 := Lib.hid (HB3.out.trans (hb7.mono HB3.out.size))
    clear hb7
    go_wp2
    go_ret
    exact ⟨rfl, HB7.out⟩
  · obtain ⟨us, g1, g2, g3, g4, g5⟩ := back_all hl hM
    have hsm1 := small_all hM g4
    have hsm2 := small_all g1 (by rw [g3]; exact g4)
    have hmany := chain_many ts (all_chain hM)
    have hlenM : (ts.map (Tk.mem l)).length = ts.length := List.length_map _
    obtain ⟨M, hMM⟩ : ∃ M, M = ts.map (Tk.mem l) := ⟨_, rfl⟩
    rw [← hMM] at g1 g2 g3 g4 g5 hsm1 hsm2 hr hlenM
    obtain ⟨P, hP⟩ : ∃ P, P = prM M := ⟨_, rfl⟩
    rw [← hP] at g1 g3 g4 g5 hsm2
    have HM := Lib.hid g1
    have HS1 := Lib.hid hsm1
    have HS2 := Lib.hid hsm2
    have HG2 := Lib.hid g2
    have HG3 := Lib.hid g3
    have HG4 := Lib.hid g4
    have HG5 := Lib.hid g5
    have HP := Lib.hid hP
    have HN := Lib.hid (show M.length ≤ 2000 by omega)
    obtain ⟨w3, hw3⟩ : ∃ w3, w3 = w2.alloc (.cells #[.int .i64 0, .int .i64 0, .int .i64 0] 26) := ⟨_, rfl⟩
    have hb23 : Below w2.heap.size w2 w3 := by rw [hw3]; exact (Below.refl _ _).alloc (Nat.le_refl _) _
    have HB3 := Lib.hid (hb2.trans (hb23.mono hb2.size))
    have HR3 := Lib.hid (hr.below hb23 (Nat.le_refl _))
    have HW3 := Lib.hid hw3
    clear hw3 hb23 hb2 hM hr hl hmany hlenM hMM hP g1 g2 g3 g4 g5 hsm1 hsm2
    go_upto_region 2 with fail
    rw [← HW3.out]
    generalize w2.heap.size = PB
    go_wp2_with fail
    refine (Print_any _ M w3 HR3.out HS1.out (by rw [← HP.out]; have := HG4.out; omega)).mono ?_
    rintro e w4 ⟨rfl, hb4⟩
    rw [← HP.out]
    have HB4 := Lib.hid (HB3.out.trans (hb4.mono HB3.out.size))
    have HR4 := Lib.hid (HR3.out.below hb4 (Nat.le_refl _))
    clear hb4
    go_wp2_with fail
    refine (all_two P (by have := HG4.out; omega) w4).mono ?_
    rintro e w5 ⟨hb5, ⟨c, r, hM5, rfl⟩ | ⟨us', r', a', cp', hM5, rfl, hr5⟩⟩
    · rw [HM.out] at hM5; cases hM5
    rw [HM.out] at hM5
    cases hM5
    have HB5 := HB4.out.trans (hb5.mono HB4.out.size)
    obtain ⟨w6, hw6⟩ : ∃ w6, w6 = w5.alloc (.cells #[.int .i64 0, .int .i64 0, .int .i64 0] 26) := ⟨_, rfl⟩
    have hb56 : Below w5.heap.size w5 w6 := by rw [hw6]; exact (Below.refl _ _).alloc (Nat.le_refl _) _
    have HB6 := Lib.hid (HB5.trans (hb56.mono HB5.size))
    have HRL6 := Lib.hid ((HR4.out.below hb5 (Nat.le_refl _)).below hb56 (Nat.le_refl _))
    have HRM6 := Lib.hid (hr5.below hb56 (Nat.le_refl _))
    have HW6 := Lib.hid hw6
    clear HB5 hb5 hw6 hb56 hr5
    go_upto_region 5 with fail
    rw [← HW6.out]
    generalize w5.heap.size = PC
    go_wp2_with fail
    refine (Joined_any _ M w6 HRL6.out (by have := HN.out; omega) (by rw [← HP.out]; have := HG4.out; omega)).mono ?_
    rintro e w7 ⟨hb7, v7, rfl, hr7⟩
    obtain ⟨a7, c7, rfl⟩ := RdSl.shape hr7
    have HB7 := Lib.hid (HB6.out.trans (hb7.mono HB6.out.size))
    have HRL7 := Lib.hid (HRL6.out.below hb7 (Nat.le_refl _))
    have HRM7 := Lib.hid (HRM6.out.below hb7 (Nat.le_refl _))
    have HSM := Lib.hid (Same_yes _ _ (us.map (Tk.mem P)) (joinM M) w7 HRM7.out hr7 (by rw [List.length_map]; exact HG2.out) (fun i x y hx hy => HG5.out i x y hx hy))
    clear hb7 hr7
    go_wp2_with fail
    refine HSM.out.mono ?_
    rintro e w8 ⟨rfl, hb8⟩
    have HB8 := Lib.hid (HB7.out.trans (hb8.mono HB7.out.size))
    have HRL8 := Lib.hid (HRL7.out.below hb8 (Nat.le_refl _))
    have HRM8 := Lib.hid (HRM7.out.below hb8 (Nat.le_refl _))
    clear hb8 HSM
    go_wp2_with fail
    refine (Print_any _ (us.map (Tk.mem P)) w8 HRM8.out HS2.out (by rw [HG3.out]; have := HG4.out; omega)).mono ?_
    rintro e w9 ⟨rfl, hb9⟩
    rw [HG3.out]
    have HB9 := Lib.hid (HB8.out.trans (hb9.mono HB8.out.size))
    have HRL9 := Lib.hid (HRL8.out.below hb9 (Nat.le_refl _))
    clear hb9
    go_wp2_with fail
    refine (Print_any _ M w9 HRL9.out HS1.out (by rw [← HP.out]; have := HG4.out; omega)).mono ?_
    rintro e w10 ⟨rfl, hb10⟩
    rw [← HP.out]
    have HB10 := Lib.hid (HB9.out.trans (hb10.mono HB9.out.size))
    clear hb10
    go_wp2_with fail
    refine (HLV.out _).mono ?_
    rintro e w11 ⟨rfl, hb11⟩
    have HB11 := Lib.hid (HB10.out.trans (hb11.mono HB10.out.size))
    clear hb11
    go_wp2
    go_ret
    exact ⟨rfl, HB11.out⟩

set_option maxRecDepth 100000 in
theorem lifted_TokenBack (os : Os) (started : os.Started) (H : Type) (enc : TypeId × Value → H) :
    ReturnsInHanded {} Try.checked os 5 .any (Rows.tokenBackSpec.pre6 enc Try.prog Try.f5 Rows.tokenBackRow.domain false) (Rows.tokenBackSpec.post enc Try.prog Try.f5 false true false false) := by
  refine returnsInHanded_of_change (C := Try.checked) own_knob started (by kernel_rfl) Try.func5
    (ChangeSpec.witness6 (enc := enc) (C := Try.checked) false ⟨#[], #[.string .empty], []⟩ 8 (by kernel_rfl) (by kernel_rfl) (by kernel_rfl) (by kernel_rfl)) ?_
  intro W base args ds gs before hval0 hW _ _
  have hval : ∀ (j : Nat) t v, Try.f5.params[j]? = some t → args[j]? = some v → Value.okWide Try.prog W .any base t v := hval0
  have hW' := hW
  obtain ⟨p, q, hA0, hV, rfl, _, _⟩ := hW
  have hA : DataW.TrodAll enc Try.prog W 0 (fun _ => true) true Try.f5.params.toList args.toList ds p := hA0
  rw [Try.params5] at hA hval
  obtain ⟨v0, vs0, d0, ds0, p0, q0, hargs, rfl, rfl, h0, r0⟩ := trodAll_cons hA
  obtain ⟨rfl, rfl, rfl⟩ := trodAll_nil r0
  obtain rfl : args = #[v0] := by cases args; simp_all
  obtain ⟨rfl, rfl⟩ := trodVars_none hV
  obtain ⟨a0, rfl, rfl, rfl, w0⟩ := open_string Try.underlying9 (hval 0 9 v0 rfl rfl) h0
  clear hA0 hval0
  refine (walk_TokenBack a0 (by unfold maxLen at w0; exact w0) W).mono fun e W' ⟨he, hb⟩ => ?_
  subst he
  exact ⟨_, rfl, law_post (by kernel_rfl) rfl rfl rfl hW' hb⟩

/-- the statement of TokenBack -/
theorem proved_TokenBack : Rows.TokenBackSaid :=
  OpenClaim.holds_of_wide 5 Try.f5 rfl rfl rfl rfl rfl rfl rfl ⟨rfl, rfl, rfl, rfl, rfl⟩ rfl rfl rfl rfl rfl (by kernel_rfl) Try.func5 (by kernel_rfl)
    (of_decide_eq_true (by kernel_rfl)) (by unfold Func.isWrapper; first | (rw [if_pos (by decide +kernel)]; kernel_rfl) | (rw [if_neg (by decide +kernel)]; exact ⟨rfl, rfl⟩))
    (fun os started H enc _ => lifted_TokenBack os started H enc)
end Go.Proofs.Ytldgjiohigiioaa
