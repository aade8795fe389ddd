/-
  Layer 3: the card TreeNotes: notes, heads, CDATA and blanks around change no tree. For every input. Own work.
-/
import Derived.Test.YtpbkidmdfibaoaaDoorLives3
import Derived.Test.YtpbkidmdfibaoaaDoorRefS3
import Derived.Test.YtpbkidmdfibaoaaDoorPrtY3
import Derived.Test.YtpbkidmdfibaoaaDoorOpenN3
import Derived.Test.YtpbkidmdfibaoaaDoorDoor
import Derived.Lib.LaidU8
namespace Go.Proofs.YtpbkidmdfibaoaaDoor
set_option linter.unusedVariables false
set_option linter.unusedSimpArgs false
open Go.ChangeShapes Go.WideShapes Go.ChangeAt Go.RowKit
open Go.ChangeMaps (open_string shut_string)

def padM (k : Nat) : List UInt8 := [32, 10, 9, 13, 32, 10, 9].take k
theorem padM_ok (k : Nat) : ∀ c ∈ padM k, bl c = true ∧ c ≠ 60 ∧ c ≠ 38 ∧ tx c = true := by
  intro c hc
  have h2 := List.mem_of_mem_take hc
  simp only [List.mem_cons, List.not_mem_nil, or_false] at h2
  rcases h2 with rfl | rfl | rfl | rfl | rfl | rfl | rfl <;> decide
theorem padM_len (k : Nat) : (padM k).length ≤ 7 := by unfold padM; rw [List.length_take]; simp; omega
set_option maxRecDepth 100000 in
set_option maxHeartbeats 4000000 in
theorem walk_TreeNotes (x : Tr) (va vk : Value) (n : Int) (hn : 0 ≤ n ∧ n ≤ 18446744073709551615) (w : World) (hx : NdV w (allF w) x va vk) (hT : Lib.Utf8Tabs 1 2 w) :
    Calls Tryd.prog 6 #[.agg #[.string (str x.n), va, vk, .string (str x.t)], .int .u64 n] w fun e w' => e = .returned (.bool true) ∧ Below w.heap.size w w' := by
  obtain ⟨c1, c2, c3, c4, rfl, rfl⟩ := node_cells hx
  obtain ⟨w1, hw1⟩ : ∃ w1, w1 = w.alloc (.cells #[.string (str x.n), .slice c1 x.ats.length c2, .slice c3 x.ks.length c4, .string (str x.t)] 25) := ⟨_, rfl⟩
  have hb1 : Below w.heap.size w w1 := by rw [hw1]; exact (Below.refl _ _).alloc (Nat.le_refl _) _
  have hX : w1.heap[w.heap.size]? = some (.cells #[.string (str x.n), .slice c1 x.ats.length c2, .slice c3 x.ks.length c4, .string (str x.t)] 25 (0, 0)) := by rw [hw1]; exact heap_alloc_new w _
  have HXC := Lib.hid (show ∀ w2, Below w1.heap.size w1 w2 → Sr3 w.heap.size x c1 c2 c3 c4 w2 from fun w2 hb => Sr3.below ⟨by rw [cell_of_row w1 _ 0 _ _ (0, 0) hX]; rfl, by rw [cell_of_row w1 _ 1 _ _ (0, 0) hX]; rfl, by rw [cell_of_row w1 _ 2 _ _ (0, 0) hX]; rfl, by rw [cell_of_row w1 _ 3 _ _ (0, 0) hX]; rfl⟩ hb (Nat.le_refl _))
  have hup : ∀ w2, Below w1.heap.size w1 w2 → Below w.heap.size w w2 := fun w2 hb => hb1.trans (hb.mono hb1.size)
  have HUP := Lib.hid hup
  have HN := Lib.hid (show ∀ w2, Below w1.heap.size w1 w2 → NdV w2 (allF w2) x (.slice c1 x.ats.length c2) (.slice c3 x.ks.length c4) from fun w2 hb => hx.onto (hup w2 hb) (Nat.le_refl _))
  have HLV := Lib.hid (show ∀ w2, Below w1.heap.size w1 w2 → Calls Tryd.prog 10 #[] w2 fun e w' => e = .returned (.bool true) ∧ Below w2.heap.size w2 w' from fun w2 hb => lives03 w2 (Utf8Tabs_below hT (hup w2 hb)))
  have HTT := Lib.hid (show ∀ w2, Below w1.heap.size w1 w2 → Lib.Utf8Tabs 1 2 w2 from fun w2 hb => Utf8Tabs_below hT (hup w2 hb))
  have HW1 := Lib.hid hw1
  clear hx hT hw1 hb1 hX hup
  go_enter Tryd.func6, Tryd.ntmps6
  go_upto_region 1 with fail
  rw [← HW1.out]
  clear HW1
  obtain ⟨x0, x1, x2, x3⟩ := HXC.out w1 (Below.refl _ _)
  go_wp2_with fail
  refine (Lights_any x (.slice c1 x.ats.length c2) (.slice c3 x.ks.length c4) w1 (HN.out w1 (Below.refl _ _))).mono ?_
  rintro e w2 ⟨⟨b1, rfl, hsm⟩, hb2⟩
  have HB2 := Lib.hid hb2
  clear hb2 x0 x1 x2 x3
  cases b1 with
  | false =>
    clear hsm
    go_wp2_with (go_at_call 10; refine (HLV.out _ HB2.out).mono ?_; rintro e w5 ⟨rfl, hb5⟩)
    go_ret
    exact ⟨rfl, (HUP.out _ HB2.out).trans (hb5.mono (HUP.out _ HB2.out).size)⟩
  | true =>
    have HSM := Lib.hid (hsm rfl)
    clear hsm
    obtain ⟨x0, x1, x2, x3⟩ := HXC.out w2 HB2.out
    have HMY := Lib.hid (refMay_any x (.slice c1 x.ats.length c2) (.slice c3 x.ks.length c4) w2 (by have := HSM.out.2.1; omega) (sm_tb x HSM.out.1) (HN.out w2 HB2.out))
    unfold nodeV at HMY
    obtain ⟨m, hm⟩ : ∃ m, m = x.mayB := ⟨_, rfl⟩
    rw [← hm] at HMY
    have HM := Lib.hid hm
    clear hm
    cases m with
    | false =>
      go_wp2_with (first
        | (go_at_call 9; refine HMY.out.mono ?_; rintro e w3 ⟨rfl, hb3⟩; have HB3 := Lib.hid (HB2.out.trans (hb3.mono HB2.out.size)); clear hb3 x0 x1 x2 x3)
        | (go_at_call 10; refine (HLV.out _ HB3.out).mono ?_; rintro e w5 ⟨rfl, hb5⟩))
      go_ret
      exact ⟨rfl, (HUP.out _ HB3.out).trans (hb5.mono (HUP.out _ HB3.out).size)⟩
    | true =>
      go_wp2_with fail
      refine HMY.out.mono ?_
      rintro e w3 ⟨rfl, hb3⟩
      have HB3 := Lib.hid (HB2.out.trans (hb3.mono HB2.out.size))
      clear hb3 x0 x1 x2 x3 HMY
      obtain ⟨x0, x1, x2, x3⟩ := HXC.out w3 HB3.out
      clear x0 x1 x2 x3
      obtain ⟨M, hM⟩ : ∃ M : Nat, n % 8 = (M : Int) ∧ M ≤ 7 := ⟨(n % 8).toNat, by omega, by omega⟩
      obtain ⟨hM1, hM2⟩ := hM
      have hM7 : (M : Int) ≤ 7 := by omega
      go_upto_region 5 with fail
      go_loopw [5, 23] (fun ps i wr => ∃ k : Nat, k ≤ M ∧ i = .int .i64 k ∧ ps = .string (str (padM k)) ∧ w3 = wr) (fun _ i _ => M - (intOf i).toNat)
      case atStart => exact ⟨0, by omega, rfl, rfl, by first | rfl | trivial⟩
      case round =>
        obtain ⟨k, hk, rfl, rfl, rfl⟩ := hrel
        by_cases hlt : k < M
        · have hk6 : k = 0 ∨ k = 1 ∨ k = 2 ∨ k = 3 ∨ k = 4 ∨ k = 5 ∨ k = 6 := by omega
          have hkM : (k : Int) < (M : Int) := by omega
          have HLT := Lib.hid hlt
          clear hM1 hM2 hM7 hk hlt
          rcases hk6 with rfl | rfl | rfl | rfl | rfl | rfl | rfl
          all_goals
            go_wp2
            go_roundw
            case rel => exact ⟨_, HLT.out, rfl, rfl, by first | rfl | trivial⟩
            case measure => have := HLT.out; simp [intOf]; omega
        · have hle : (M : Int) ≤ (k : Int) := by omega
          obtain ⟨P, hP⟩ : ∃ P, P = padM k := ⟨_, rfl⟩
          rw [← hP]
          have HPK := Lib.hid (show ∀ c ∈ P, bl c = true ∧ c ≠ 60 ∧ c ≠ 38 ∧ tx c = true from by rw [hP]; exact padM_ok k)
          have hp7 : ((str P).size : Int) ≤ 7 := by rw [size_str]; have := padM_len k; rw [hP]; omega
          clear hP hM1 hM2 hM7
          obtain ⟨x0, x1, x2, x3⟩ := HXC.out w3 HB3.out
          have hsm3 : (notT x).length ≤ 60000000 := by have h1 := notT_len x HSM.out.1; have h2 := HSM.out.2.1; omega
          have HNO := Lib.hid (show Calls Tryd.prog 19 #[.agg #[.string (str x.n), .slice c1 x.ats.length c2, .slice c3 x.ks.length c4, .string (str x.t)]] w3 fun e w' => e = .returned (.string (str (notT x))) ∧ Below w3.heap.size w3 w' from
            noted_any x _ _ w3 (HN.out w3 HB3.out) (by omega) (by
              obtain ⟨n, ats, ks, t⟩ := x
              have g1 := HSM.out.1.2.2.1
              have g2 := HSM.out.1.2.1
              have g3 := atsP_len ats HSM.out.1.2.2.2.2.1
              show (60 :: n ++ ats.flatMap atP).length ≤ _
              simp only [List.length_append, List.length_cons]
              omega) HSM.out.1)
          obtain ⟨NT, hNT⟩ : ∃ NT, NT = notT x := ⟨_, rfl⟩
          rw [← hNT] at HNO hsm3
          have hnt : ((str NT).size : Int) ≤ 60000000 := by rw [size_str]; omega
          have HALL := Lib.hid (show ((((((⟨#[60, 63, 120, 109, 108, 32, 118, 101, 114, 115, 105, 111, 110, 61, 34, 49, 46, 48, 34, 63, 62]⟩ : ByteArray) ++ str P) ++ (⟨#[60, 33, 45, 45, 32, 97, 32, 60, 32, 98, 32, 45, 45, 62]⟩ : ByteArray)) ++ str P) ++ str NT) ++ str P) ++ (⟨#[60, 33, 45, 45, 45, 45, 62]⟩ : ByteArray) = str (allN P x) by
            show ((((str hdN ++ str P) ++ str n1N) ++ str P ++ str NT) ++ str P) ++ str n2N = _
            rw [hNT]
            simp only [app_str, allN])
          clear hNT hsm3 hle
          go_upto_region 9 with fail
          go_wp2_with fail
          refine HNO.out.mono ?_
          rintro e w4 ⟨rfl, hb4⟩
          have HB4 := Lib.hid (HB3.out.trans (hb4.mono HB3.out.size))
          clear hb4 x0 x1 x2 x3 HNO
          obtain ⟨T, hTk⟩ : ∃ T, T = allN P x := ⟨_, rfl⟩
          rw [← hTk] at HALL
          have HTK := Lib.hid hTk
          clear hTk
          go_upto_region 10 with fail
          rw [HALL.out]
          by_cases hlt : T.length ≤ 65536
          · have hsz : ((str T).size : Int) ≤ 65536 := by rw [size_str]; omega
            have HBL := Lib.hid (show Calls Tryd.prog 12 #[.string (str T)] w4 fun e w' => Below w4.heap.size w4 w' ∧ ∃ va' vk', e = .returned (.tuple #[.agg #[.string (str x.n), va', vk', .string (str x.t)], .int .i64 0, .agg #[.int .i64 0, .int .i64 0, .int .i64 0]]) ∧ NdV w' (allF w') x va' vk' from
              (Build_any T (by omega) w4 (HTT.out _ HB4.out)).mono fun e w' h => by
                have hq : buildM T = .ok x := by rw [HTK.out] at hlt ⊢; exact build_notes HM.out.symm HPK.out hlt
                unfold BuildP at h
                rw [hq] at h
                exact h)
            clear hlt
            go_wp2_with fail
            refine HBL.out.mono ?_
            rintro e w5 ⟨hb5, va', vk', rfl, hn5⟩
            obtain ⟨d1, d2, d3, d4, rfl, rfl⟩ := node_cells hn5
            go_upto_region 13 with fail
            have HB5 := Lib.hid (HB4.out.trans (hb5.mono HB4.out.size))
            obtain ⟨w6, hw6⟩ : ∃ w6, w6 = (w5.alloc (.cells #[.string (str x.n), .slice d1 x.ats.length d2, .slice d3 x.ks.length d4, .string (str x.t)] 25)).alloc (.cells #[.int .i64 0, .int .i64 0, .int .i64 0] 31) := ⟨_, rfl⟩
            rw [← hw6]
            have hb6 : Below w5.heap.size w5 w6 := by rw [hw6]; exact ((Below.refl _ _).alloc (Nat.le_refl _) _).alloc (by simp) _
            have hM : w6.heap[w5.heap.size]? = some (.cells #[.string (str x.n), .slice d1 x.ats.length d2, .slice d3 x.ks.length d4, .string (str x.t)] 25 (0, 0)) := by
              rw [hw6, Below.heap_alloc _ _ _ (by simp)]
              exact heap_alloc_new w5 _
            have hP : w6.heap[w5.heap.size + 1]? = some (.cells #[.int .i64 0, .int .i64 0, .int .i64 0] 31 (0, 0)) := by
              rw [hw6]
              have := heap_alloc_new (w5.alloc (.cells #[.string (str x.n), .slice d1 x.ats.length d2, .slice d3 x.ks.length d4, .string (str x.t)] 25)) (.cells #[.int .i64 0, .int .i64 0, .int .i64 0] 31 (0, 0))
              simpa using this
            have HB6 := Lib.hid (HB5.out.trans (hb6.mono HB5.out.size))
            have HSA := Lib.hid (refSame_any x x _ _ _ _ w6 (HN.out w6 HB6.out) (hn5.onto hb6 (Nat.le_refl _)))
            rw [eqT_self] at HSA
            unfold nodeV at HSA
            clear hn5 hb5 HBL hw6 hb6
            obtain ⟨x0, x1, x2, x3⟩ := HXC.out w6 HB6.out
            generalize w5.heap.size + 1 = PB at hP ⊢
            generalize w5.heap.size = MB at hM ⊢
            have m0 : w6.cell? ⟨MB, 0, none⟩ = some (.string (str x.n)) := by rw [cell_of_row w6 _ 0 _ _ (0, 0) hM]; rfl
            have m1 : w6.cell? ⟨MB, 1, none⟩ = some (.slice d1 x.ats.length d2) := by rw [cell_of_row w6 _ 1 _ _ (0, 0) hM]; rfl
            have m2 : w6.cell? ⟨MB, 2, none⟩ = some (.slice d3 x.ks.length d4) := by rw [cell_of_row w6 _ 2 _ _ (0, 0) hM]; rfl
            have m3 : w6.cell? ⟨MB, 3, none⟩ = some (.string (str x.t)) := by rw [cell_of_row w6 _ 3 _ _ (0, 0) hM]; rfl
            have p0 : w6.cell? ⟨PB, 0, none⟩ = some (.int .i64 0) := by rw [cell_of_row w6 _ 0 _ _ (0, 0) hP]; rfl
            have p1 : w6.cell? ⟨PB, 1, none⟩ = some (.int .i64 0) := by rw [cell_of_row w6 _ 1 _ _ (0, 0) hP]; rfl
            have p2 : w6.cell? ⟨PB, 2, none⟩ = some (.int .i64 0) := by rw [cell_of_row w6 _ 2 _ _ (0, 0) hP]; rfl
            clear hM hP
            go_wp2_with (first
              | (go_at_call 13; refine HSA.out.mono ?_; rintro e w7 ⟨rfl, hb7⟩; have HB7 := Lib.hid (HB6.out.trans (hb7.mono HB6.out.size)); clear hb7)
              | (go_at_call 10; refine (HLV.out _ HB7.out).mono ?_; rintro e w8 ⟨rfl, hb8⟩))
            go_ret
            exact ⟨rfl, (HUP.out _ HB7.out).trans (hb8.mono (HUP.out _ HB7.out).size)⟩
          · have hsz : ¬ ((str T).size : Int) ≤ 65536 := by rw [size_str]; omega
            clear hlt
            go_wp2_with (go_at_call 10; refine (HLV.out _ HB4.out).mono ?_; rintro e w5 ⟨rfl, hb5⟩)
            go_ret
            exact ⟨rfl, (HUP.out _ HB4.out).trans (hb5.mono (HUP.out _ HB4.out).size)⟩

theorem laid_met_TreeNotes (os : Os) : laidMet Tryd.prog Rows.treeNotesRow.laid ((laidWorld #[.agg #[.string .empty, .slice none 0 0, .slice none 0 0, .string .empty], .int .u64 0] os).forCall (fun _ _ => 0) ⟨#[], #[.agg #[.string .empty, .slice none 0 0, .slice none 0 0, .string .empty], .int .u64 0], []⟩).memory :=
  laidMet_of_run' 8 (by kernel_rfl) (by kernel_rfl)
theorem reads_TreeNotes (os : Os) {H : Type} (enc : TypeId × Value → H) : ∃ places, DataW.whole enc Tryd.prog ((laidWorld #[.agg #[.string .empty, .slice none 0 0, .slice none 0 0, .string .empty], .int .u64 0] os).forCall (fun _ _ => 0) ⟨#[], #[.agg #[.string .empty, .slice none 0 0, .slice none 0 0, .string .empty], .int .u64 0], []⟩).memory Tryd.f6.params.toList Rows.treeNotesSpec.vars false (#[.agg #[.string .empty, .slice none 0 0, .slice none 0 0, .string .empty], .int .u64 0] : Array Value).toList 8 = some ([.agg [.lit (.string []), .nil, .nil, .lit (.string [])], .lit (.int .u64 0)], [], places) :=
  ⟨[], by kernel_rfl⟩
set_option maxRecDepth 100000 in
theorem lifted_TreeNotes (os : Os) (started : os.Started) (H : Type) (enc : TypeId × Value → H) (F : Stop.Interp) :
    ReturnsInHanded {} Tryd.checked os 6 .any ((OpenSpec.ofChange Rows.treeNotesSpec).preRow enc Tryd.prog Tryd.f6 Rows.treeNotesRow.domain false Rows.treeNotesRow.laid) (((OpenSpec.ofChange Rows.treeNotesSpec).at F).post enc Tryd.prog Tryd.f6 false true false false) := by
  obtain ⟨places, hx⟩ := reads_TreeNotes os enc
  refine returnsInHanded_of_row (C := Tryd.checked) (s := OpenSpec.ofChange Rows.treeNotesSpec) own_knob started (by kernel_rfl) Tryd.func6
    (witness_row_at (enc := enc) (C := Tryd.checked) false (laidWorld #[.agg #[.string .empty, .slice none 0 0, .slice none 0 0, .string .empty], .int .u64 0] os) #[.agg #[.string .empty, .slice none 0 0, .slice none 0 0, .string .empty], .int .u64 0] rfl (by kernel_rfl) (by kernel_rfl) (by kernel_rfl)
      (OpenSpec.preRow_of_cond 8 hx (by kernel_rfl) (fun k hk => by cases hk) (by kernel_rfl) (laid_met_TreeNotes os))) ?_
  intro W base args ds gs before hval0 hW _ _ _ hL hsh _
  have hU : Lib.Utf8Tabs 1 2 W :=
    utf8Tabs_of_reads (ρ := Tryd.lays260_ren) { Tryd.lays260 with } ⟨by kernel_rfl, by kernel_rfl, by kernel_rfl, by kernel_rfl, by kernel_rfl, by kernel_rfl, by kernel_rfl⟩ (Lib.laidMet.reads hL (.tail _ (.head _))) (Lib.laidMet.reads hL (.head _))
  have hval : ∀ (j : Nat) t v, Tryd.f6.params[j]? = some t → args[j]? = some v → Value.okWide Tryd.prog W .any base t v := hval0
  have hW' := hW
  obtain ⟨p, q, hA0, hV, rfl, _, _⟩ := hW
  have hA : DataW.TrodAll enc Tryd.prog W 0 (fun _ => true) true Tryd.f6.params.toList args.toList ds p := hA0
  rw [Tryd.params6] at hA hval
  obtain ⟨v0, vs0, d0, ds0, p0, q0, hargs, rfl, rfl, h0, r0⟩ := trodAll_cons hA
  obtain ⟨v1, vs1, d1, ds1, p1, q1, rfl, rfl, rfl, h1, r1⟩ := trodAll_cons r0
  obtain ⟨rfl, rfl, rfl⟩ := trodAll_nil r1
  obtain rfl : args = #[v0, v1] := by cases args; simp_all
  obtain ⟨rfl, rfl⟩ := trodVars_none hV
  obtain ⟨x0, va0, vk0, rfl, nd0⟩ := open_node (hval 0 25 v0 rfl rfl) h0
  obtain ⟨a1, rfl, rfl, rfl, w1⟩ := open_int Tryd.underlying42 (hval 1 42 v1 rfl rfl) h1
  clear hA0 hval0
  refine (walk_TreeNotes x0 va0 vk0 a1 (wf_u64 w1) W nd0 hU).mono fun e W' ⟨he, hb⟩ => ?_
  subst he
  exact ⟨_, rfl, law_post (by kernel_rfl) rfl rfl rfl hW' hb⟩
theorem said_TreeNotes : Rows.TreeNotesSaid :=
  OpenClaim.holds_of_cond 6 Tryd.f6 rfl rfl rfl rfl rfl rfl rfl ⟨rfl, rfl, rfl, rfl, rfl⟩ rfl rfl rfl rfl rfl (by kernel_rfl) Tryd.func6 (by kernel_rfl)
    (of_decide_eq_true (by kernel_rfl)) (by unfold Func.isWrapper; first | (rw [if_pos (by decide +kernel)]; kernel_rfl) | (rw [if_neg (by decide +kernel)]; exact ⟨rfl, rfl⟩))
    (fun os started H enc _ F => by rw [OpenClaim.pre_eq_preRow]; exact lifted_TreeNotes os started H enc F)
set_option maxRecDepth 100000 in
theorem plain_TreeNotes (f : FuncId) (fn : Func) (hf : Tryd.pinned.checked.prog.funcNamed "pomace/pomacelaw03.TreeNotes" = some f) (hfn : Tryd.pinned.checked.prog.funcs[f]? = some fn) :
    true = Tryd.pinned.checked.prog.looks [] ∧ ∀ (j : Nat) t, fn.params[j]? = some t → Tryd.pinned.checked.prog.wantsStandIn t = false := by
  obtain rfl : f = 6 := Option.some.inj ((show Tryd.prog.funcNamed "pomace/pomacelaw03.TreeNotes" = some 6 by kernel_rfl).symm.trans hf) |>.symm
  obtain rfl : fn = Tryd.f6 := (Option.some.inj (Tryd.func6.symm.trans hfn)).symm
  refine ⟨by kernel_rfl, fun j t ht => ?_⟩
  rw [Tryd.params6] at ht
  have h := Array.mem_of_getElem? ht
  simp only [List.mem_toArray, List.mem_cons, List.not_mem_nil, or_false] at h
  rcases h with rfl | rfl
  all_goals first
    | exact (show Tryd.prog.wantsStandIn 25 = false by kernel_rfl)
    | exact (show Tryd.prog.wantsStandIn 42 = false by kernel_rfl)

/-- the statement of TreeNotes: its card -/
theorem proved_TreeNotes : Rows.TreeNotesCardSaid :=
  Claim7.holds_tied_plain_at .later [] _ _ _ _ said_TreeNotes (fun _ h => by cases h) (by kernel_rfl) (fun _ h => by cases h) treeNotes_row_tie rfl ⟨rfl, rfl⟩ (by kernel_rfl) rfl plain_TreeNotes (by kernel_rfl)
end Go.Proofs.YtpbkidmdfibaoaaDoor
