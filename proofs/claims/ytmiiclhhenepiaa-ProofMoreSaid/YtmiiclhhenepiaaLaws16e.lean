/-
  Layer 16: the statement ProofMore: more clauses and more literals let no less follow. For every input. Own work.
-/
import Derived.Test.YtmiiclhhenepiaaMr16
import Derived.Deep.Grids
import Derived.ChangeSlices
namespace Go.Proofs.Ytmiiclhhenepiaa
set_option linter.unusedVariables false
set_option linter.unusedSimpArgs false
open Go.ChangeShapes Go.WideShapes Go.ChangeAt Go.RowKit

set_option maxRecDepth 100000 in
set_option maxHeartbeats 4000000 in
theorem walk_ProofMore (u1 u2 : Value) (l1 l2 : List (List Int)) (f0 : Fit64 l1) (f1 : Fit64 l2) (v1 : Value) (c : List Int) (f2 : ∀ n ∈ c, -9223372036854775808 ≤ n ∧ n ≤ 9223372036854775807) (n : Int) (hn : -9223372036854775808 ≤ n ∧ n ≤ 9223372036854775807) (W : World) (g0 : Reads2 W u1 l1) (gm : Reads2 W u2 l2) (g1 : Reads W iV v1 c) :
    Calls Try.prog 7 #[.agg #[u1, u2], v1, .int .i64 n] W fun e W' => e = .returned (.bool true) ∧ Below W.heap.size W W' := by
  obtain ⟨a1, c1, rfl, hl1, _⟩ := reads_shape g1
  have hl1I : (c.length : Int) ≤ 9223372036854775807 := by omega
  have hb0 : Below W.heap.size W (W.alloc (.cells #[u1, u2] 37)) := (Below.refl _ _).alloc (Nat.le_refl _) _
  have hnew := heap_alloc_new W (.cells #[u1, u2] 37)
  have HG0 := Lib.hid (g0.then16 hb0.drew)
  have HGM := Lib.hid (gm.then16 hb0.drew)
  have HG1 := Lib.hid (g1.below hb0.drew (Nat.le_refl _))
  have HB0 := Lib.hid hb0.drew
  have HLV := Lib.hid lives_any
  obtain ⟨a0, c0, rfl, hl0, _⟩ := g0
  obtain ⟨am, cm, rfl, hlm, _⟩ := gm
  have hl0I : (l1.length : Int) ≤ 9223372036854775807 := by omega
  have hlmI : (l2.length : Int) ≤ 9223372036854775807 := by omega
  clear hl0 hlm g1 hb0
  go_enter Try.func7, Try.ntmps7
  go_upto_region 1 with fail
  generalize W.alloc (.cells #[.slice a0 l1.length c0, .slice am l2.length cm] 37) = w9 at HG0 HGM HG1 HB0 hnew ⊢
  obtain ⟨Q0, hQ0⟩ : ∃ Q0, Q0 = W.heap.size := ⟨_, rfl⟩
  rw [← hQ0] at hnew ⊢
  clear hQ0
  have q0 : w9.cell? ⟨Q0, 0, none⟩ = some (.slice a0 l1.length c0) := by rw [cell_of_row w9 Q0 0 _ _ (0, 0) hnew]; rfl
  have q1 : w9.cell? ⟨Q0, 1, none⟩ = some (.slice am l2.length cm) := by rw [cell_of_row w9 Q0 1 _ _ (0, 0) hnew]; rfl
  clear hnew
  go_region
  generalize w9.drew = w0 at HG0 HGM HG1 HB0 ⊢
  clear q0 q1
  have HLT := Lib.hid (Light_any _ l1 w0 HG0.out)
  have HLM := Lib.hid (Light_any _ l2 w0 HGM.out)
  have HMD := Lib.hid (mild_any _ l1 w0 HG0.out f0)
  have HMM := Lib.hid (mild_any _ l2 w0 HGM.out f1)
  go_wp2_with fail
  refine HLT.out.mono ?_
  rintro e wX ⟨rfl, hwX⟩
  obtain rfl : w0 = wX := hwX.symm
  clear HLT
  cases hL : lightB l1 with
  | false =>
    go_wp2_with fail
    refine (HLV.out _).mono ?_
    rintro e wE ⟨rfl, hbE⟩
    go_wp2
    go_ret
    exact ⟨rfl, then16 (HB0.out) hbE⟩
  | true =>
    go_wp2_with fail
    refine HLM.out.mono ?_
    rintro e wX ⟨rfl, hwX⟩
    obtain rfl : w0 = wX := hwX.symm
    clear HLM
    cases hLM : lightB l2 with
    | false =>
      go_wp2_with fail
      refine (HLV.out _).mono ?_
      rintro e wE ⟨rfl, hbE⟩
      go_wp2
      go_ret
      exact ⟨rfl, then16 (HB0.out) hbE⟩
    | true =>
      obtain ⟨hlc, hlr⟩ := light_of hL
      obtain ⟨hmc, hmr⟩ := light_of hLM
      have hsum : IntKind.i64.wrap ((l1.length : Int) + (l2.length : Int)) = (l1.length : Int) + (l2.length : Int) := IntWalk.i64_in _ ⟨by omega, by omega⟩
      by_cases h80 : 80 < l1.length + l2.length
      · have h80I : (80 : Int) < (l1.length : Int) + (l2.length : Int) := by omega
        go_wp2_with fail
        refine (HLV.out _).mono ?_
        rintro e wE ⟨rfl, hbE⟩
        go_wp2
        go_ret
        exact ⟨rfl, then16 (HB0.out) hbE⟩
      · have h80I : ¬ (80 : Int) < (l1.length : Int) + (l2.length : Int) := by omega
        by_cases h20 : 20 < c.length
        · have h20I : (20 : Int) < (c.length : Int) := by omega
          go_wp2_with fail
          refine (HLV.out _).mono ?_
          rintro e wE ⟨rfl, hbE⟩
          go_wp2
          go_ret
          exact ⟨rfl, then16 (HB0.out) hbE⟩
        · have h20I : ¬ (20 : Int) < (c.length : Int) := by omega
          go_wp2_with fail
          refine HMD.out.mono ?_
          rintro e wX ⟨rfl, hwX⟩
          obtain rfl : w0 = wX := hwX.symm
          clear HMD
          cases hM : mildB l1 with
          | false =>
            go_wp2_with fail
            refine (HLV.out _).mono ?_
            rintro e wE ⟨rfl, hbE⟩
            go_wp2
            go_ret
            exact ⟨rfl, then16 (HB0.out) hbE⟩
          | true =>
            go_wp2_with fail
            refine HMM.out.mono ?_
            rintro e wX ⟨rfl, hwX⟩
            obtain rfl : w0 = wX := hwX.symm
            clear HMM
            cases hM2 : mildB l2 with
            | false =>
              go_wp2_with fail
              refine (HLV.out _).mono ?_
              rintro e wE ⟨rfl, hbE⟩
              go_wp2
              go_ret
              exact ⟨rfl, then16 (HB0.out) hbE⟩
            | true =>
              have HBM := Lib.hid (show Below w0.heap.size w0 ((w0.alloc (.cells #[.int .i64 n] 3)).alloc (.cells #[.slice a1 c.length c1, .slice (some ⟨w0.heap.size, 0, none⟩) 1 1] 31)) from ((Below.refl _ _).alloc (Nat.le_refl _) _).alloc (by simp) _)
              have hfn : Fit64 [c, [n]] := fun d hd m hm => by
                rcases List.mem_cons.1 hd with rfl | hd
                · exact f2 m hm
                · rw [List.mem_singleton.1 hd] at hm
                  rw [List.mem_singleton.1 hm]
                  exact hn
              have HM3 := Lib.hid (mild_any _ [c, [n]] _ (two_rows16 w0 (.slice a1 c.length c1) c n HG1.out) hfn)
              go_wp2_with fail
              refine HM3.out.mono ?_
              rintro e wX ⟨rfl, hwX⟩
              subst hwX
              clear HM3
              cases hM3 : mildB [c, [n]] with
              | false =>
                go_wp2_with fail
                refine (HLV.out _).mono ?_
                rintro e wE ⟨rfl, hbE⟩
                go_wp2
                go_ret
                exact ⟨rfl, then16 (then16 HB0.out HBM.out) hbE⟩
              | true =>
                obtain ⟨hn1, hn2⟩ := (mild_of hfn hM3) [n] (by simp) n (by simp)
                generalize ((w0.alloc (.cells #[.int .i64 n] 3)).alloc (.cells #[.slice a1 c.length c1, .slice (some ⟨w0.heap.size, 0, none⟩) 1 1] 31)) = wM at HBM ⊢
                go_wp2_with (at_builtin
                             refine appAll16 (w0 := w0) rfl _ _ rfl (cs := l2) (by rfl) (by rfl) HBM.out HGM.out (by omega) ?_)
                intro v4 w4 rows4 hall4
                have HAL4 := Lib.hid hall4
                clear hall4
                go_wp2_with (at_builtin
                             refine appMore16 rfl _ _ rfl HAL4.out (by rfl) (by rfl) HG0.out (by omega) ?_)
                intro v5 w5 rows5 hall5
                generalize hA5 : l2 ++ l1 = A5 at hall5
                have HA5 := Lib.hid hA5
                obtain ⟨aa, ac, rfl⟩ := hall5.shape
                have HAL5 := Lib.hid hall5
                have HB5 := Lib.hid hall5.b
                clear hall5 HAL4 hA5 HBM
                go_wp2_with (at_builtin
                             refine appInts16 (w0 := w5) rfl _ _ rfl (c := c) (by rfl) (by rfl) (Below.refl _ _) (HG1.out.below HB5.out (Nat.le_refl _)) (by omega) ?_)
                intro v6 w6 hy6
                have HY6 := Lib.hid hy6
                have ho6 := hy6.own
                have hb6 := hy6.b.size
                clear hy6
                go_wp2_with (at_builtin
                             refine appZ rfl _ _ rfl w6 n (by rfl) (by rfl) ho6 (by omega) hb6 ?_)
                intro g7 cap7 w7 ho7 hg7
                have HWY7 := Lib.hid (HY6.out.push ho7 hg7)
                have HB7 := Lib.hid (then16 HB5.out HWY7.out.b)
                have HRA7 := Lib.hid (HAL5.out.reads.below HWY7.out.b (Nat.le_refl _))
                clear ho6 hb6 ho7 hg7 HY6 HAL5
                have HF1 := Lib.hid (Follows_any _ _ l1 c w7 (HG0.out.then16 HB7.out) f0 (by omega) hlr (HG1.out.below HB7.out (Nat.le_refl _)) f2 (by omega))
                go_wp2_with fail
                refine HF1.out.mono ?_
                rintro e wP ⟨⟨b, rfl, hb⟩, hbP⟩
                have HBP := Lib.hid hbP
                have HBP0 := Lib.hid (then16 HB7.out hbP)
                cases b with
                | false =>
                  have HBW8 := HBP0
                  have HWY := Lib.hid (HWY7.out.later HBP.out)
                  clear hb hbP HF1 HBP HBP0
                  generalize hw8 : wP = w8 at HBW8 HWY ⊢
                  clear hw8
                  have HB8 := Lib.hid (Below.refl w8.heap.size w8)
                  go_wp2_with fail
                  go_loopw [85] (fun iv wr => ∃ j : Nat, j ≤ l1.length ∧ iv = .int .i64 (j : Int) ∧ Below w8.heap.size w8 wr) (fun iv _ => l1.length - (intOf iv).toNat)
                  case atStart => exact ⟨0, by omega, rfl, HB8.out⟩
                  case round =>
                    obtain ⟨j, hj, rfl, hbw⟩ := hrel
                    have HBX := Lib.hid hbw
                    have HBI := Lib.hid (then16 HBW8.out hbw)
                    clear hbw
                    by_cases hlt : j < l1.length
                    · obtain ⟨x, hxj⟩ : ∃ x, l1[j]? = some x := ⟨_, List.getElem?_eq_getElem hlt⟩
                      obtain ⟨bx, rx, rfl, hr, hrow⟩ := HG0.out.row hxj
                      obtain ⟨hr2, hrd⟩ := hrow wr HBI.out
                      have hjI : (j : Int) < (l1.length : Int) := by omega
                      have HFX := Lib.hid (Follows_any _ _ l1 x wr (HG0.out.then16 HBI.out) f0 (by omega) hlr hrd (fun m hm => f0 x (List.mem_of_getElem? hxj) m hm) (by have := hlr x (List.mem_of_getElem? hxj); omega))
                      have HXM := Lib.hid (List.mem_of_getElem? hxj)
                      clear hr hrow hrd hxj
                      go_wp2_with fail
                      refine HFX.out.mono ?_
                      rintro e wY ⟨⟨bb, rfl, hbb⟩, hbY⟩
                      obtain rfl : bb = true := hbb.2 (fol_mem HXM.out)
                      have HBY := Lib.hid (show Below w8.heap.size w8 wY from then16 HBX.out hbY)
                      clear hbb hbY HFX
                      go_wp2_with fail
                      exact ⟨⟨j + 1, by omega, by go_num, HBY.out⟩, by simp [intOf]; omega⟩
                    · have hle : (l1.length : Int) ≤ (j : Int) := by omega
                      by_cases hn0 : n = 0
                      · clear HWY
                        subst hn0
                        go_wp2_with fail
                        refine (HLV.out _).mono ?_
                        rintro e wE ⟨rfl, hbE⟩
                        go_wp2
                        go_ret
                        exact ⟨rfl, then16 (then16 HB0.out HBI.out) hbE⟩
                      · have HN0 := Lib.hid hn0
                        have hng : IntKind.i64.wrap (-n) = -n := IntWalk.i64_in _ ⟨by omega, by omega⟩
                        have HYI := Lib.hid (HWY.out.later HBX.out)
                        have ho9 : wr.ownsRow w5.heap.size 3 1 (.slice (some ⟨g7, 0, none⟩) (c.length + 1) cap7) (c.length + 1) ((c ++ [n]).map iV) := by
                          have h := HYI.out.own
                          rw [List.length_append, List.length_singleton] at h
                          exact h
                        have hb9 := HYI.out.b.size
                        go_wp2_with (at_builtin
                                     refine appZg (by (try simp only [decide_eq_false hn0]); (try rfl); (try decide); (try simp [Region.wanted, yielded, hn0])) _ _ rfl wr (-n) (by rfl) (by rfl) ho9 (by omega) hb9 ?_)
                        intro g5 cap5 w9 ho5 hg5
                        have HY9 := Lib.hid (HYI.out.push (by rw [List.length_append, List.length_singleton, List.map_append, List.append_assoc]; exact ho5) hg5)
                        have HB9 := Lib.hid (then16 HB5.out HY9.out.b)
                        have HF9 := Lib.hid (Follows_any _ (.slice (some ⟨g5, 0, none⟩) (c.length + 1 + 1) cap5) l1 (c ++ [n] ++ [-n]) w9 (HG0.out.then16 HB9.out) f0 (by omega) hlr (reads_own16 HY9.out.own) (fun m hm => by
                          rcases List.mem_append.1 hm with hm | hm
                          · rcases List.mem_append.1 hm with hm | hm
                            · exact f2 m hm
                            · rw [List.mem_singleton.1 hm]; exact ⟨by omega, by omega⟩
                          · rw [List.mem_singleton.1 hm]; exact ⟨by omega, by omega⟩) (by simp; omega))
                        clear ho9 ho5 hg5 hb9
                        go_wp2_with fail
                        refine HF9.out.mono ?_
                        rintro e w10 ⟨⟨b9, rfl, hb9⟩, hbb9⟩
                        obtain rfl : b9 = true := hb9.2 (fol_both HN0.out (by simp) (by simp))
                        have HB10 := Lib.hid (then16 HB9.out hbb9)
                        clear hb9 hbb9 HF9
                        go_wp2_with fail
                        refine (HLV.out _).mono ?_
                        rintro e wE ⟨rfl, hbE⟩
                        go_wp2
                        go_ret
                        exact ⟨rfl, then16 (then16 HB0.out HB10.out) hbE⟩
                | true =>
                  have HFC := Lib.hid (hb.1 rfl)
                  have HF2 := Lib.hid (Follows_any _ _ A5 c wP (HRA7.out.below hbP (Nat.le_refl _)) (fun d hd => (List.mem_append.1 (HA5.out ▸ hd)).elim (f1 d) (f0 d)) (by rw [← HA5.out]; simp; omega) (fun d hd => (List.mem_append.1 (HA5.out ▸ hd)).elim (hmr d) (hlr d)) (HG1.out.below HBP0.out (Nat.le_refl _)) f2 (by omega))
                  clear hb hbP HF1
                  go_wp2_with fail
                  refine HF2.out.mono ?_
                  rintro e wS ⟨⟨b, rfl, hb⟩, hbS⟩
                  obtain rfl : b = true := hb.2 (HFC.out.mono (fun x hx => by rw [← HA5.out]; exact List.mem_append_right _ hx) (fun _ h => h))
                  have HBS0 := Lib.hid (then16 HBP0.out hbS)
                  have HWYS := Lib.hid ((HWY7.out.later HBP.out).later hbS)
                  have HF3 := Lib.hid (Follows_any _ (.slice (some ⟨g7, 0, none⟩) (c.length + 1) cap7) l1 (c ++ [n]) wS (HG0.out.then16 HBS0.out) f0 (by omega) hlr (reads_own16 HWYS.out.own) (fun m hm => by
                    rcases List.mem_append.1 hm with hm | hm
                    · exact f2 m hm
                    · rw [List.mem_singleton.1 hm]; exact ⟨by omega, by omega⟩) (by simp; omega))
                  clear hb hbS HF2
                  go_wp2_with fail
                  refine HF3.out.mono ?_
                  rintro e w8 ⟨⟨b, rfl, hb⟩, hb8⟩
                  obtain rfl : b = true := hb.2 (HFC.out.mono (fun _ h => h) (fun m hm => List.mem_append_left _ hm))
                  have HBW8 := Lib.hid (then16 HBS0.out hb8)
                  have HWY := Lib.hid (HWYS.out.later hb8)
                  clear hb hb8 HF3
                  have HB8 := Lib.hid (Below.refl w8.heap.size w8)
                  go_wp2_with fail
                  go_loopw [85] (fun iv wr => ∃ j : Nat, j ≤ l1.length ∧ iv = .int .i64 (j : Int) ∧ Below w8.heap.size w8 wr) (fun iv _ => l1.length - (intOf iv).toNat)
                  case atStart => exact ⟨0, by omega, rfl, HB8.out⟩
                  case round =>
                    obtain ⟨j, hj, rfl, hbw⟩ := hrel
                    have HBX := Lib.hid hbw
                    have HBI := Lib.hid (then16 HBW8.out hbw)
                    clear hbw
                    by_cases hlt : j < l1.length
                    · obtain ⟨x, hxj⟩ : ∃ x, l1[j]? = some x := ⟨_, List.getElem?_eq_getElem hlt⟩
                      obtain ⟨bx, rx, rfl, hr, hrow⟩ := HG0.out.row hxj
                      obtain ⟨hr2, hrd⟩ := hrow wr HBI.out
                      have hjI : (j : Int) < (l1.length : Int) := by omega
                      have HFX := Lib.hid (Follows_any _ _ l1 x wr (HG0.out.then16 HBI.out) f0 (by omega) hlr hrd (fun m hm => f0 x (List.mem_of_getElem? hxj) m hm) (by have := hlr x (List.mem_of_getElem? hxj); omega))
                      have HXM := Lib.hid (List.mem_of_getElem? hxj)
                      clear hr hrow hrd hxj
                      go_wp2_with fail
                      refine HFX.out.mono ?_
                      rintro e wY ⟨⟨bb, rfl, hbb⟩, hbY⟩
                      obtain rfl : bb = true := hbb.2 (fol_mem HXM.out)
                      have HBY := Lib.hid (show Below w8.heap.size w8 wY from then16 HBX.out hbY)
                      clear hbb hbY HFX
                      go_wp2_with fail
                      exact ⟨⟨j + 1, by omega, by go_num, HBY.out⟩, by simp [intOf]; omega⟩
                    · have hle : (l1.length : Int) ≤ (j : Int) := by omega
                      by_cases hn0 : n = 0
                      · clear HWY
                        subst hn0
                        go_wp2_with fail
                        refine (HLV.out _).mono ?_
                        rintro e wE ⟨rfl, hbE⟩
                        go_wp2
                        go_ret
                        exact ⟨rfl, then16 (then16 HB0.out HBI.out) hbE⟩
                      · have HN0 := Lib.hid hn0
                        have hng : IntKind.i64.wrap (-n) = -n := IntWalk.i64_in _ ⟨by omega, by omega⟩
                        have HYI := Lib.hid (HWY.out.later HBX.out)
                        have ho9 : wr.ownsRow w5.heap.size 3 1 (.slice (some ⟨g7, 0, none⟩) (c.length + 1) cap7) (c.length + 1) ((c ++ [n]).map iV) := by
                          have h := HYI.out.own
                          rw [List.length_append, List.length_singleton] at h
                          exact h
                        have hb9 := HYI.out.b.size
                        go_wp2_with (at_builtin
                                     refine appZg (by (try simp only [decide_eq_false hn0]); (try rfl); (try decide); (try simp [Region.wanted, yielded, hn0])) _ _ rfl wr (-n) (by rfl) (by rfl) ho9 (by omega) hb9 ?_)
                        intro g5 cap5 w9 ho5 hg5
                        have HY9 := Lib.hid (HYI.out.push (by rw [List.length_append, List.length_singleton, List.map_append, List.append_assoc]; exact ho5) hg5)
                        have HB9 := Lib.hid (then16 HB5.out HY9.out.b)
                        have HF9 := Lib.hid (Follows_any _ (.slice (some ⟨g5, 0, none⟩) (c.length + 1 + 1) cap5) l1 (c ++ [n] ++ [-n]) w9 (HG0.out.then16 HB9.out) f0 (by omega) hlr (reads_own16 HY9.out.own) (fun m hm => by
                          rcases List.mem_append.1 hm with hm | hm
                          · rcases List.mem_append.1 hm with hm | hm
                            · exact f2 m hm
                            · rw [List.mem_singleton.1 hm]; exact ⟨by omega, by omega⟩
                          · rw [List.mem_singleton.1 hm]; exact ⟨by omega, by omega⟩) (by simp; omega))
                        clear ho9 ho5 hg5 hb9
                        go_wp2_with fail
                        refine HF9.out.mono ?_
                        rintro e w10 ⟨⟨b9, rfl, hb9⟩, hbb9⟩
                        obtain rfl : b9 = true := hb9.2 (fol_both HN0.out (by simp) (by simp))
                        have HB10 := Lib.hid (then16 HB9.out hbb9)
                        clear hb9 hbb9 HF9
                        go_wp2_with fail
                        refine (HLV.out _).mono ?_
                        rintro e wE ⟨rfl, hbE⟩
                        go_wp2
                        go_ret
                        exact ⟨rfl, then16 (then16 HB0.out HB10.out) hbE⟩

set_option maxRecDepth 100000 in
theorem lifted_ProofMore (os : Os) (started : os.Started) (H : Type) (enc : TypeId × Value → H) :
    ReturnsInHanded {} Try.checked os 7 .any (Rows.proofMoreSpec.pre6 enc Try.prog Try.f7 Rows.proofMoreRow.domain false) (Rows.proofMoreSpec.post enc Try.prog Try.f7 false true false false) := by
  refine returnsInHanded_of_change (C := Try.checked) own_knob started (by kernel_rfl) Try.func7
    (ChangeSpec.witness6 (enc := enc) (C := Try.checked) false ⟨#[], #[.agg #[.slice none 0 0, .slice none 0 0], .slice none 0 0, .int .i64 0], []⟩ 8 (by kernel_rfl) (by kernel_rfl) (by kernel_rfl) (by kernel_rfl)) ?_
  intro W base args ds gs before hval0 hW _ _
  have hval : ∀ (j : Nat) t v, Try.f7.params[j]? = some t → args[j]? = some v → Value.okWide Try.prog W .any base t v := hval0
  have hW' := hW
  obtain ⟨p, q, hA0, hV, rfl, _, _⟩ := hW
  have hA : DataW.TrodAll enc Try.prog W 0 (fun _ => true) true Try.f7.params.toList args.toList ds p := hA0
  rw [Try.params7] at hA hval
  obtain ⟨v0, vs0, d0, ds0, p0, q0, hargs, rfl, rfl, h0, r0⟩ := trodAll_cons hA
  obtain ⟨v1, vs1, d1, ds1, p1, q1, rfl, rfl, rfl, h1, r1⟩ := trodAll_cons r0
  obtain ⟨v2, vs2, d2, ds2, p2, q2, rfl, rfl, rfl, h2, r2⟩ := trodAll_cons r1
  obtain ⟨rfl, rfl, rfl⟩ := trodAll_nil r2
  obtain rfl : args = #[v0, v1, v2] := by cases args; simp_all
  obtain ⟨rfl, rfl⟩ := trodVars_none hV
  obtain ⟨u1, u2, l1x, l2x, rfl, k1, q1, k2, q2⟩ := open_two (hval 0 37 v0 rfl rfl) h0
  obtain ⟨l1, g1, w1⟩ := open_reads_ints (hval 1 31 v1 rfl rfl) h1
  obtain ⟨a2, rfl, rfl, rfl, w2⟩ := open_int Try.underlying3 (hval 2 3 v2 rfl rfl) h2
  clear hA0 hval0
  refine (walk_ProofMore u1 u2 l1x l2x q1 q2 v1 l1 w1 a2 (wf_i64 w2) W k1 k2 g1).mono fun e W' ⟨he, hb⟩ => ?_
  subst he
  exact ⟨_, rfl, law_post (by kernel_rfl) rfl rfl rfl hW' hb⟩

/-- the statement of ProofMore -/
theorem proved_ProofMore : Rows.ProofMoreSaid :=
  OpenClaim.holds_of_wide 7 Try.f7 rfl rfl rfl rfl rfl rfl rfl ⟨rfl, rfl, rfl, rfl, rfl⟩ rfl rfl rfl rfl rfl (by kernel_rfl) Try.func7 (by kernel_rfl)
    (of_decide_eq_true (by kernel_rfl)) (by unfold Func.isWrapper; first | (rw [if_pos (by decide +kernel)]; kernel_rfl) | (rw [if_neg (by decide +kernel)]; exact ⟨rfl, rfl⟩))
    (fun os started H enc _ => lifted_ProofMore os started H enc)

end Go.Proofs.Ytmiiclhhenepiaa
