/-
  Layer 3: the walk of TreeLimits. Own work.
-/
import Derived.Test.YtpbkidmdfibaoaaDoorLives3
import Derived.Test.YtpbkidmdfibaoaaDoorLim3
import Derived.Test.YtpbkidmdfibaoaaDoorBuf3
namespace Go.Proofs.YtpbkidmdfibaoaaDoor
set_option linter.unusedVariables false
set_option linter.unusedSimpArgs false
open Go.RowKit

theorem build_gen (l : List UInt8) (hl : l.length ≤ 1000000) (w : World) (hT : Lib.Utf8Tabs 1 2 w) :
    Calls Tryd.prog 12 #[.string (str l)] w fun e w' => ∃ (x : Tr) (a : Option Addr) (c : Nat) (b : Option Addr) (d : Nat) (k o p q : Int),
      e = .returned (.tuple #[.agg #[.string (str x.n), .slice a x.ats.length c, .slice b x.ks.length d, .string (str x.t)], .int .i64 k, .agg #[.int .i64 o, .int .i64 p, .int .i64 q]]) ∧ NdV w' (allF w') x (.slice a x.ats.length c) (.slice b x.ks.length d) ∧
      (match buildM l with | .ok t => k = 0 ∧ x = t | .bad e o' => k = e ∧ o = (o' : Int)) ∧ Below w.heap.size w w' := by
  refine (Build_any l hl w hT).mono ?_
  rintro e w' ⟨hb, h⟩
  cases hM : buildM l with
  | ok t =>
    rw [hM] at h
    obtain ⟨va, vk, rfl, hn⟩ := h
    obtain ⟨a, c, rfl⟩ := hn.ats.shape
    obtain ⟨b, d, rfl⟩ := hn.rd.shape
    exact ⟨t, a, c, b, d, 0, 0, 0, 0, rfl, hn, ⟨rfl, rfl⟩, hb⟩
  | bad c o =>
    rw [hM] at h
    exact ⟨Tr.nil, none, 0, none, 0, c, o, _, _, h, .leaf (.inl ⟨rfl, rfl⟩) (fun hn => absurd rfl hn), ⟨rfl, rfl⟩, hb⟩
set_option maxRecDepth 100000 in
set_option maxHeartbeats 1000000 in
theorem walk_TreeLimits (d : Int) (hd : -9223372036854775808 ≤ d ∧ d ≤ 9223372036854775807) (m : Int) (hm : -9223372036854775808 ≤ m ∧ m ≤ 9223372036854775807) (b : Bool) (w : World) (hT : Lib.Utf8Tabs 1 2 w) :
    Calls Tryd.prog 7 #[.int .i64 d, .int .i64 m, .bool b] w fun e w' => e = .returned (.bool true) ∧ Below w.heap.size w w' := by
  go_enter Tryd.func7, Tryd.ntmps7
  go_upto_region 1 with fail
  obtain ⟨D, hD, hD1, hD2⟩ : ∃ D : Nat, max 1 (min d 67) = (D : Int) ∧ 1 ≤ D ∧ D ≤ 67 := ⟨(max 1 (min d 67)).toNat, by omega, by omega, by omega⟩
  obtain ⟨M, hM, hM2⟩ : ∃ M : Nat, max 0 (min m 4099) = (M : Int) ∧ M ≤ 4099 := ⟨(max 0 (min m 4099)).toNat, by omega, by omega⟩
  have HT := Lib.hid hT
  go_upto_region 2 with fail
  have hDI : (D : Int) ≤ 67 := by omega
  have hMI : (M : Int) ≤ 4099 := by omega
  clear hT hD hM hd hm
  go_upto_region 4 with fail
  go_loop [7, 23] (fun s i => ∃ q : Nat, q ≤ D ∧ i = .int .i64 q ∧ s = .string (str (reps tA q))) (fun _ i => D - (intOf i).toNat)
  case atStart => exact ⟨0, by omega, rfl, rfl⟩
  case round =>
    obtain ⟨q, hq, rfl, rfl⟩ := hrel
    have hln := reps_len tA q
    have hsz : (((str (reps tA q)).size : Nat) : Int) = 3 * (q : Int) := by rw [size_str, hln]; show ((3 * q : Nat) : Int) = _; omega
    have hszI : (((str (reps tA q)).size : Nat) : Int) ≤ 1000 := by omega
    by_cases hlt : q < D
    · have hqI : (q : Int) < (D : Int) := by omega
      have HSN := Lib.hid (show str (reps tA q) ++ ⟨#[60, 97, 62]⟩ = str (reps tA (q + 1)) by rw [app_lit, reps_snoc]; rfl)
      generalize str (reps tA q) = S at hszI hsz HSN ⊢
      clear hln
      go_wp2_with fail
      refine ⟨⟨q + 1, by omega, by go_num, by rw [HSN.out]⟩, by simp [intOf]; omega⟩
    · have hqD : q = D := by omega
      subst hqD
      have hle : ¬ (q : Int) < (q : Int) := by omega
      have HSZ := Lib.hid hsz
      go_upto_region 9 with fail
      go_loop [7, 31] (fun s i => ∃ k : Nat, k ≤ q ∧ i = .int .i64 k ∧ s = .string (str (reps tA q ++ reps tZ k))) (fun _ i => q - (intOf i).toNat)
      case atStart => exact ⟨0, by omega, rfl, by rw [show reps tZ 0 = [] from rfl, List.append_nil]⟩
      case round =>
        obtain ⟨k, hk, rfl, rfl⟩ := hrel
        have hlz := reps_len tZ k
        have hszz : (((str (reps tA q ++ reps tZ k)).size : Nat) : Int) = 3 * (q : Int) + 4 * (k : Int) := by
          rw [size_str, List.length_append, hln, hlz]
          show ((3 * q + 4 * k : Nat) : Int) = _
          omega
        have hszzI : (((str (reps tA q ++ reps tZ k)).size : Nat) : Int) ≤ 1000 := by omega
        by_cases hltk : k < q
        · have hkI : (k : Int) < (q : Int) := by omega
          have HSN := Lib.hid (show str (reps tA q ++ reps tZ k) ++ ⟨#[60, 47, 97, 62]⟩ = str (reps tA q ++ reps tZ (k + 1)) by rw [app_lit, reps_snoc tZ, List.append_assoc]; rfl)
          generalize str (reps tA q ++ reps tZ k) = S at hszz hszzI HSN ⊢
          clear hln hlz hszI hsz hle
          go_wp2_with fail
          refine ⟨⟨k + 1, by omega, by go_num, by rw [HSN.out]⟩, by simp [intOf]; omega⟩
        · have hkq : k = q := by omega
          subst hkq
          have hle2 : ¬ (k : Int) < (k : Int) := by omega
          rw [show reps tA k ++ reps tZ k = txD k from rfl] at hszz hszzI ⊢
          clear hszz hszzI hszI hln hlz
          clear hsz
          have HBG := Lib.hid (build_gen (txD k) (by rw [txD_len]; omega) w HT.out)
          have HCASE := Lib.hid (show (64 < k → buildM (txD k) = .bad 2 192) ∧ (k ≤ 64 → buildM (txD k) = .ok (ch (k - 1))) from ⟨fun h => build_txD_big h hD2, fun h => build_txD hD1 h⟩)
          go_upto_region 12 with fail
          go_wp2_with fail
          refine HBG.out.mono ?_
          rintro e w1 ⟨x, a1, c1, k1, d1, c, o, p, q, rfl, hnx, hres, hb1⟩
          obtain ⟨v1, hv1⟩ : ∃ v, v = (w1.alloc (.cells #[.string (str x.n), .slice a1 x.ats.length c1, .slice k1 x.ks.length d1, .string (str x.t)] 25)).alloc (.cells #[.int .i64 o, .int .i64 p, .int .i64 q] 31) := ⟨_, rfl⟩
          have hb11 : Below w1.heap.size w1 v1 := by rw [hv1]; exact ((Below.refl _ _).alloc (Nat.le_refl _) _).alloc (by simp) _
          have HB1 := Lib.hid (show Below w.heap.size w v1 from hb1.trans (hb11.mono hb1.size))
          have hX : v1.heap[w1.heap.size]? = some (.cells #[.string (str x.n), .slice a1 x.ats.length c1, .slice k1 x.ks.length d1, .string (str x.t)] 25 (0, 0)) := by rw [hv1, Below.heap_alloc _ _ _ (by simp)]; exact heap_alloc_new w1 _
          have hY : v1.heap[w1.heap.size + 1]? = some (.cells #[.int .i64 o, .int .i64 p, .int .i64 q] 31 (0, 0)) := by rw [hv1]; exact heap_alloc2_new w1 _ _
          have HN := Lib.hid (hnx.onto hb11 (Nat.le_refl _))
          have HRES := Lib.hid hres
          have HV1 := Lib.hid hv1
          have x0 : v1.cell? ⟨w1.heap.size, 0, none⟩ = some (.string (str x.n)) := by rw [cell_of_row v1 _ 0 _ _ (0, 0) hX]; rfl
          have x1 : v1.cell? ⟨w1.heap.size, 1, none⟩ = some (.slice a1 x.ats.length c1) := by rw [cell_of_row v1 _ 1 _ _ (0, 0) hX]; rfl
          have x2 : v1.cell? ⟨w1.heap.size, 2, none⟩ = some (.slice k1 x.ks.length d1) := by rw [cell_of_row v1 _ 2 _ _ (0, 0) hX]; rfl
          have x3 : v1.cell? ⟨w1.heap.size, 3, none⟩ = some (.string (str x.t)) := by rw [cell_of_row v1 _ 3 _ _ (0, 0) hX]; rfl
          have y0 : v1.cell? ⟨w1.heap.size + 1, 0, none⟩ = some (.int .i64 o) := by rw [cell_of_row v1 _ 0 _ _ (0, 0) hY]; rfl
          clear hnx hres hb1 hv1 hb11 hX hY
          go_upto_region 13 with fail
          rw [← HV1.out]
          generalize w1.heap.size + 1 = Y at y0 ⊢
          generalize w1.heap.size = X at x0 x1 x2 x3 ⊢
          have hkk : (k : Int) ≤ 67 := hDI
          go_upto_if 43 with fail
          go_cut [] from 16 to 106 (fun wx => Below w.heap.size w wx)
          case first =>
            by_cases hbig : 64 < k
            · have hr := HRES.out
              rw [HCASE.out.1 hbig] at hr
              obtain ⟨rfl, rfl⟩ := hr
              have hbI : (64 : Int) < (k : Int) := by omega
              obtain ⟨E, hE⟩ : ∃ E : Int, E = (k : Int) - 64 := ⟨_, rfl⟩
              have hw1 : IntKind.i64.wrap ((k : Int) - 64) = E := by rw [IntWalk.i64_in _ (by omega)]; exact hE.symm
              obtain ⟨E3, hE3⟩ : ∃ E3 : Int, E3 = 3 * E := ⟨_, rfl⟩
              have hw2 : IntKind.i64.wrap (3 * E) = E3 := by rw [IntWalk.i64_in _ (by omega)]; exact hE3.symm
              have hw3 : IntKind.i64.wrap (3 * (k : Int) - E3) = 192 := by rw [IntWalk.i64_in _ (by omega)]; omega
              clear hE hE3 hbig
              go_wp2_with fail
              go_meet
              exact HB1.out
            · have hr := HRES.out
              rw [HCASE.out.2 (by omega)] at hr
              obtain ⟨rfl, rfl⟩ := hr
              have hbI : ¬ (64 : Int) < (k : Int) := by omega
              have hdep : (ch (k - 1)).dep = k := by rw [ch_dep]; omega
              have HDE := Lib.hid (Depth_any (ch (k - 1)) (by rw [ch_size]; omega) _ _ v1 HN.out)
              unfold nodeV at HDE
              rw [hdep] at HDE
              clear hbig hdep
              generalize ch (k - 1) = tr at x0 x1 x2 x3 HDE
              go_wp2_with (go_at_call 20; refine HDE.out.mono ?_; rintro e w5 ⟨rfl, hb5⟩)
              go_meet
              exact HB1.out.trans (hb5.mono HB1.out.size)
          case rest =>
            clear x0 x1 x2 x3 y0 HRES HN HBG HCASE HV1 HB1
            have hconv := Lib.run_convert_bytes_const (P := Tryd.prog) wc 45 5 #[.int .u8 60, .int .u8 97, .int .u8 62] 3 3 Tryd.underlying45 Tryd.underlying5
            obtain ⟨wd, hwd⟩ : ∃ wd, wd = wc.alloc (.cells #[.int .u8 60, .int .u8 97, .int .u8 62] 5 ((#[.int .u8 60, .int .u8 97, .int .u8 62] : Array Value).size, (#[.int .u8 60, .int .u8 97, .int .u8 62] : Array Value).size + 1)) := ⟨_, rfl⟩
            have HBF0 := Lib.hid (show Buf3 w.heap.size (.slice (some ⟨wc.heap.size, 0, none⟩) 3 3) (tA ++ reps tB 0) w wd from
              ⟨by rw [hwd]; exact hcut.alloc hcut.size _, by rw [hwd]; simp; have := hcut.size; omega, .inr ⟨wc.heap.size, rfl, hcut.size, fun j u hj => by
                rw [show (⟨wc.heap.size, 0, none⟩ : Addr).add j = ⟨wc.heap.size, j, none⟩ by unfold Addr.add; split <;> simp_all, hwd, World.cell?_alloc_mark]
                have : (byC (tA ++ reps tB 0)) = [.int .u8 60, .int .u8 97, .int .u8 62] := rfl
                rw [this] at hj
                simpa using hj⟩⟩)
            rw [← hwd] at hconv
            have HWD := Lib.hid hwd
            clear hwd hcut
            go_upto_region 19 with fail
            clear hconv
            generalize wc.heap.size = Z at HBF0 ⊢
            go_upto_region 20 with fail
            go_loopw [12, 67] (fun v i wr => ∃ q : Nat, q ≤ M ∧ i = .int .i64 q ∧ Buf3 w.heap.size v (tA ++ reps tB q) w wr) (fun _ i _ => M - (intOf i).toNat)
            case atStart => exact ⟨0, by omega, rfl, HBF0.out⟩
            case round =>
              clear HBF0
              obtain ⟨q, hq, rfl, hbf⟩ := hrel
              have hlq : (tA ++ reps tB q).length = 3 + 4 * q := by rw [List.length_append, reps_len]; rfl
              obtain ⟨va, vc, hv⟩ := Buf3.shape hbf
              subst hv
              have HBF := Lib.hid hbf
              clear hbf
              by_cases hlt : q < M
              · have hqI : (q : Int) < (M : Int) := by omega
                go_wp2_with (refine wp_app_text rfl _ _ rfl tB rfl rfl HBF.out (by decide) (by rw [hlq]; show 3 + 4 * q + 4 ≤ _; omega) ?_; intro v7 w7 hb7)
                have HB7 := Lib.hid (show Buf3 w.heap.size v7 (tA ++ reps tB (q + 1)) w w7 by rw [reps_snoc, ← List.append_assoc]; exact hb7)
                obtain ⟨za, zc, hz⟩ := Buf3.shape hb7
                subst hz
                clear hb7
                go_wp2_with fail
                go_roundw
                case rel => exact ⟨q + 1, by omega, by go_num, HB7.out⟩
                case measure => simp [intOf]; omega
              · have hqM : q = M := by omega
                subst hqM
                have hle : ¬ (q : Int) < (q : Int) := by omega
                have hleM := hM2
                cases b with
                | false =>
                  have HBX := Lib.hid (show Buf3 w.heap.size _ (tA ++ reps tB q ++ xT false) w wr by
                    have := HBF.out
                    rw [show tA ++ reps tB q ++ xT false = tA ++ reps tB q from List.append_nil _]
                    exact this)
                  clear HBF
                  have hlen : (tA ++ reps tB q ++ xT false).length = 3 + 4 * q + 0 := by
                    rw [List.length_append, List.length_append, reps_len]; rfl
                  have hcv := run_buf_str HBX.out (fun h0 => absurd (hlen.symm.trans (congrArg List.length h0)) (by simp only [List.length_nil]; omega))
                  have HCAT := Lib.hid (show str (tA ++ reps tB q ++ xT false) ++ ⟨#[60, 47, 97, 62]⟩ = str (txM q false) by rw [app_lit]; rfl)
                  have hszI : (((str (tA ++ reps tB q ++ xT false)).size : Nat) : Int) ≤ 100000 := by rw [size_str, hlen]; omega
                  have HBG := Lib.hid (build_gen (txM q false) (by rw [txM_len]; have : (xT false).length = 0 := rfl; omega) wr (Utf8Tabs_below HT.out HBX.out.1))
                  have HBW := Lib.hid HBX.out.1
                  clear hlen HBX
                  generalize str (tA ++ reps tB q ++ xT false) = S at hcv HCAT hszI
                  obtain ⟨n, hn⟩ : ∃ n, n = (tA ++ reps tB q).length := ⟨_, rfl⟩
                  rw [← hn] at hcv ⊢
                  clear hn hlq
                  go_wp2_with fail
                  rw [HCAT.out]
                  refine HBG.out.mono ?_
                  rintro e w1 ⟨x, a1, c1, k1, d1, c, o, p, p3, rfl, hnx, hres, hb1⟩
                  obtain ⟨v1, hv1⟩ : ∃ v, v = (w1.alloc (.cells #[.string (str x.n), .slice a1 x.ats.length c1, .slice k1 x.ks.length d1, .string (str x.t)] 25)).alloc (.cells #[.int .i64 o, .int .i64 p, .int .i64 p3] 31) := ⟨_, rfl⟩
                  have hb11 : Below w1.heap.size w1 v1 := by rw [hv1]; exact ((Below.refl _ _).alloc (Nat.le_refl _) _).alloc (by simp) _
                  have HB1 := Lib.hid (show Below w.heap.size w v1 from HBW.out.trans ((hb1.trans (hb11.mono hb1.size)).mono HBW.out.size))
                  have hX : v1.heap[w1.heap.size]? = some (.cells #[.string (str x.n), .slice a1 x.ats.length c1, .slice k1 x.ks.length d1, .string (str x.t)] 25 (0, 0)) := by rw [hv1, Below.heap_alloc _ _ _ (by simp)]; exact heap_alloc_new w1 _
                  have HN := Lib.hid (hnx.onto hb11 (Nat.le_refl _))
                  have HRES := Lib.hid hres
                  have HV1 := Lib.hid hv1
                  have HLV := Lib.hid (fun w2 (hb : Below w.heap.size w w2) => lives03 w2 (Utf8Tabs_below HT.out hb))
                  have x0 : v1.cell? ⟨w1.heap.size, 0, none⟩ = some (.string (str x.n)) := by rw [cell_of_row v1 _ 0 _ _ (0, 0) hX]; rfl
                  have x1 : v1.cell? ⟨w1.heap.size, 1, none⟩ = some (.slice a1 x.ats.length c1) := by rw [cell_of_row v1 _ 1 _ _ (0, 0) hX]; rfl
                  have x2 : v1.cell? ⟨w1.heap.size, 2, none⟩ = some (.slice k1 x.ks.length d1) := by rw [cell_of_row v1 _ 2 _ _ (0, 0) hX]; rfl
                  have x3 : v1.cell? ⟨w1.heap.size, 3, none⟩ = some (.string (str x.t)) := by rw [cell_of_row v1 _ 3 _ _ (0, 0) hX]; rfl
                  clear hnx hres hb1 hv1 hb11 hX hcv
                  go_upto_region 27 with fail
                  rw [← HV1.out]
                  generalize w1.heap.size = X at x0 x1 x2 x3 ⊢
                  by_cases hbg : 4096 < q + 0 + 1
                  · obtain ⟨q2, hq2⟩ := build_txM_big false hM2 (by show 4096 < q + 0 + 1; exact hbg)
                    have hr := HRES.out
                    rw [hq2] at hr
                    obtain ⟨rfl, _⟩ := hr
                    have hbI : (4096 : Int) < (q : Int) + 0 + 1 := by omega
                    have hbI2 : (4096 : Int) < (q : Int) + 1 + 0 := by omega
                    have hbI3 : (4096 : Int) < (q : Int) + 1 ∨ True := .inr trivial
                    have hbJ : (4096 : Int) < (q : Int) + 1 := by omega
                    clear hbg hq2 hbI3
                    go_wp2_with (go_at_call 10; refine (HLV.out _ HB1.out).mono ?_; rintro e w5 ⟨rfl, hb5⟩)
                    go_ret
                    exact ⟨rfl, HB1.out.trans (hb5.mono HB1.out.size)⟩
                  · obtain ⟨t2, ht2, hz2⟩ := build_txM false (m := q) (by show q + 0 + 1 ≤ 4096; omega)
                    have hr := HRES.out
                    rw [ht2] at hr
                    obtain ⟨rfl, rfl⟩ := hr
                    have hz3 : x.size = q + 0 + 1 := hz2
                    have HCN := Lib.hid (Count_any x (by omega) _ _ v1 HN.out)
                    unfold nodeV at HCN
                    rw [hz3] at HCN
                    have hbJ : ¬ (4096 : Int) < (q : Int) + 1 := by omega
                    clear hbg ht2 hz2 hz3
                    go_wp2_with fail
                    refine HCN.out.mono ?_
                    rintro e w5 ⟨rfl, hb5⟩
                    have HB5 := Lib.hid (HB1.out.trans (hb5.mono HB1.out.size))
                    clear hb5 x0 x1 x2 x3
                    go_wp2_with (go_at_call 10; refine (HLV.out _ HB5.out).mono ?_; rintro e w6 ⟨rfl, hb6⟩)
                    go_ret
                    exact ⟨rfl, HB5.out.trans (hb6.mono HB5.out.size)⟩
                | true =>
                  go_upto_region 24 with fail
                  go_wp2_with (refine wp_app_one rfl _ _ rfl 120 rfl rfl HBF.out (by rw [hlq]; omega) ?_; intro v7 w7 hb7)
                  have HBX := Lib.hid (show Buf3 w.heap.size v7 (tA ++ reps tB q ++ xT true) w w7 from hb7)
                  clear hb7 HBF
                  have hsl := Buf3.shape HBX.out
                  obtain ⟨ua, uc, hu⟩ := hsl
                  subst hu
                  have hlen : (tA ++ reps tB q ++ xT true).length = 3 + 4 * q + 1 := by
                    rw [List.length_append, List.length_append, reps_len]; rfl
                  have hcv := run_buf_str HBX.out (fun h0 => absurd (hlen.symm.trans (congrArg List.length h0)) (by simp only [List.length_nil]; omega))
                  have HCAT := Lib.hid (show str (tA ++ reps tB q ++ xT true) ++ ⟨#[60, 47, 97, 62]⟩ = str (txM q true) by rw [app_lit]; rfl)
                  have hszI : (((str (tA ++ reps tB q ++ xT true)).size : Nat) : Int) ≤ 100000 := by rw [size_str, hlen]; omega
                  have HBG := Lib.hid (build_gen (txM q true) (by rw [txM_len]; have : (xT true).length = 1 := rfl; omega) w7 (Utf8Tabs_below HT.out HBX.out.1))
                  have HBW := Lib.hid HBX.out.1
                  clear hlen HBX
                  generalize str (tA ++ reps tB q ++ xT true) = S at hcv HCAT hszI
                  obtain ⟨n, hn⟩ : ∃ n, n = (tA ++ reps tB q ++ xT true).length := ⟨_, rfl⟩
                  rw [← hn] at hcv ⊢
                  clear hn hlq
                  go_wp2_with fail
                  rw [hcv]
                  go_simp
                  go_wp2_with fail
                  rw [HCAT.out]
                  refine HBG.out.mono ?_
                  rintro e w1 ⟨x, a1, c1, k1, d1, c, o, p, p3, rfl, hnx, hres, hb1⟩
                  obtain ⟨v1, hv1⟩ : ∃ v, v = (w1.alloc (.cells #[.string (str x.n), .slice a1 x.ats.length c1, .slice k1 x.ks.length d1, .string (str x.t)] 25)).alloc (.cells #[.int .i64 o, .int .i64 p, .int .i64 p3] 31) := ⟨_, rfl⟩
                  have hb11 : Below w1.heap.size w1 v1 := by rw [hv1]; exact ((Below.refl _ _).alloc (Nat.le_refl _) _).alloc (by simp) _
                  have HB1 := Lib.hid (show Below w.heap.size w v1 from HBW.out.trans ((hb1.trans (hb11.mono hb1.size)).mono HBW.out.size))
                  have hX : v1.heap[w1.heap.size]? = some (.cells #[.string (str x.n), .slice a1 x.ats.length c1, .slice k1 x.ks.length d1, .string (str x.t)] 25 (0, 0)) := by rw [hv1, Below.heap_alloc _ _ _ (by simp)]; exact heap_alloc_new w1 _
                  have HN := Lib.hid (hnx.onto hb11 (Nat.le_refl _))
                  have HRES := Lib.hid hres
                  have HV1 := Lib.hid hv1
                  have HLV := Lib.hid (fun w2 (hb : Below w.heap.size w w2) => lives03 w2 (Utf8Tabs_below HT.out hb))
                  have x0 : v1.cell? ⟨w1.heap.size, 0, none⟩ = some (.string (str x.n)) := by rw [cell_of_row v1 _ 0 _ _ (0, 0) hX]; rfl
                  have x1 : v1.cell? ⟨w1.heap.size, 1, none⟩ = some (.slice a1 x.ats.length c1) := by rw [cell_of_row v1 _ 1 _ _ (0, 0) hX]; rfl
                  have x2 : v1.cell? ⟨w1.heap.size, 2, none⟩ = some (.slice k1 x.ks.length d1) := by rw [cell_of_row v1 _ 2 _ _ (0, 0) hX]; rfl
                  have x3 : v1.cell? ⟨w1.heap.size, 3, none⟩ = some (.string (str x.t)) := by rw [cell_of_row v1 _ 3 _ _ (0, 0) hX]; rfl
                  clear hnx hres hb1 hv1 hb11 hX hcv
                  go_upto_region 27 with fail
                  rw [← HV1.out]
                  generalize w1.heap.size = X at x0 x1 x2 x3 ⊢
                  by_cases hbg : 4096 < q + 1 + 1
                  · obtain ⟨q2, hq2⟩ := build_txM_big true hM2 (by show 4096 < q + 1 + 1; exact hbg)
                    have hr := HRES.out
                    rw [hq2] at hr
                    obtain ⟨rfl, _⟩ := hr
                    have hbI : (4096 : Int) < (q : Int) + 1 + 1 := by omega
                    have hbI2 : (4096 : Int) < (q : Int) + 1 + 1 := by omega
                    have hbI3 : (4096 : Int) < (q : Int) + 1 ∨ True := .inr trivial
                    have hbJ : (4096 : Int) < (q : Int) + 1 + 1 := by omega
                    clear hbg hq2 hbI3
                    go_wp2_with (go_at_call 10; refine (HLV.out _ HB1.out).mono ?_; rintro e w5 ⟨rfl, hb5⟩)
                    go_ret
                    exact ⟨rfl, HB1.out.trans (hb5.mono HB1.out.size)⟩
                  · obtain ⟨t2, ht2, hz2⟩ := build_txM true (m := q) (by show q + 1 + 1 ≤ 4096; omega)
                    have hr := HRES.out
                    rw [ht2] at hr
                    obtain ⟨rfl, rfl⟩ := hr
                    have hz3 : x.size = q + 1 + 1 := hz2
                    have HCN := Lib.hid (Count_any x (by omega) _ _ v1 HN.out)
                    unfold nodeV at HCN
                    rw [hz3] at HCN
                    have hbJ : ¬ (4096 : Int) < (q : Int) + 1 + 1 := by omega
                    clear hbg ht2 hz2 hz3
                    go_wp2_with fail
                    refine HCN.out.mono ?_
                    rintro e w5 ⟨rfl, hb5⟩
                    have HB5 := Lib.hid (HB1.out.trans (hb5.mono HB1.out.size))
                    clear hb5 x0 x1 x2 x3
                    go_wp2_with (go_at_call 10; refine (HLV.out _ HB5.out).mono ?_; rintro e w6 ⟨rfl, hb6⟩)
                    go_ret
                    exact ⟨rfl, HB5.out.trans (hb6.mono HB5.out.size)⟩
end Go.Proofs.YtpbkidmdfibaoaaDoor
