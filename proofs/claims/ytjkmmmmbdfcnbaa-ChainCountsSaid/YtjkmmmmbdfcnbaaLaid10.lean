/-
  Layer 10: laid: a row, and behind it those of another whose keys it has not. Own work.
-/
import Derived.Test.YtjkmmmmbdfcnbaaMap10
import Derived.Test.YtjkmmmmbdfcnbaaRefUn10
import Derived.Test.YtjkmmmmbdfcnbaaUnKey10
namespace Go.Proofs.Ytjkmmmmbdfcnbaa
set_option linter.unusedVariables false
set_option linter.unusedSimpArgs false
open Go.RowKit

theorem hasK_set {l : List Dp} {k : Nat} {d : Dp} (hd : l[k]? = some d) (q : Ky) : (hasK (l.take k) q || sameKy (keyD d) q) = hasK (l.take (k + 1)) q := by
  unfold hasK
  rw [List.take_add_one, hd, List.any_append]
  simp
theorem ks_ne {w : World} {b n B e size m : Nat} {f : Ky → Bool} {v : Value} {xs : List Value} (h : KeySet w b n f) (ho : w.ownsRow B e size v m xs) : some b ≠ v.ownBlock := by
  intro hb
  obtain ⟨D, ⟨es, clock, h1, _⟩, _⟩ := h
  rcases ho.2 with ⟨rfl, _⟩ | ⟨g, cap, cur, rfl, _, hg, _⟩
  · simp [Value.ownBlock] at hb
  · simp [Value.ownBlock] at hb
    subst hb
    rw [h1] at hg
    simp at hg
set_option maxRecDepth 100000 in
set_option maxHeartbeats 8000000 in
theorem laid_any (l m : List Dp) (va vb : Value) (w0 w : World) (ha : RdDs w0 va l) (hb : RdDs w0 vb m) (h0 : Below w0.heap.size w0 w) (hl : l.length ≤ 10000) (hm : m.length ≤ 10000)
    (hka : ∀ d ∈ l, okKy (keyD d)) (hkb : ∀ d ∈ m, okKy (keyD d)) :
    Calls Try.prog 26 #[va, vb, .func (.func 27) #[] #[]] w (UnP l m w0 w) := by
  obtain ⟨aa, ac, rfl⟩ := RdSl.shape ha
  obtain ⟨ba, bc, rfl⟩ := RdSl.shape hb
  have hlI : (l.length : Int) ≤ 10000 := by omega
  have hmI : (m.length : Int) ≤ 10000 := by omega
  obtain ⟨ps, hps, hraw0, hxs⟩ := RdDs.raw ha
  have hraw := hraw0.below h0 (Nat.le_refl _)
  clear hraw0
  have hpl : l.length = ps.length := by rw [← hps, List.length_map]
  have HPL := Lib.hid hpl
  clear hpl
  have HA0 := Lib.hid ha
  have HB0 := Lib.hid hb
  have H0 := Lib.hid h0
  have HPS := Lib.hid hps
  have HXS := Lib.hid hxs
  have HKA := Lib.hid hka
  have HKB := Lib.hid hkb
  have HCL := Lib.hid (CloneD_any (.slice aa l.length ac) l.length (rowD ps) w hraw (by omega))
  clear ha hb h0 hps hxs hka hkb hraw
  have hmm := fun (n : Int) (w : World) => run_makeMap_n (t := 68) n w Try.underlying68
  go_enter Try.func26, Try.ntmps26
  go_wp2_with fail
  refine HCL.out.mono ?_
  rintro e w2 ⟨v2, rfl, hown, hb2⟩
  have HOWN := Lib.hid hown
  have HB2 := Lib.hid hb2
  clear hown hb2 HCL
  obtain ⟨v2a, v2c, hv2⟩ : ∃ a c, v2 = .slice a l.length c := by
    rcases HOWN.out.2 with ⟨rfl, hn⟩ | ⟨g, cap, cur, rfl, _⟩
    · exact ⟨none, 0, by rw [hn]⟩
    · exact ⟨_, _, rfl⟩
  subst hv2
  go_upto_region 3 with fail
  have hks := KeySet.made w2
  have hbm : Below w2.heap.size w2 (w2.alloc (.map #[] 0)) := (Below.refl _ _).alloc (Nat.le_refl _) _
  generalize w2.alloc (.map #[] 0) = w3 at hks hbm ⊢
  obtain ⟨MB, hMB⟩ : ∃ b, b = w2.heap.size := ⟨_, rfl⟩
  rw [← hMB] at hks hbm ⊢
  have HMB := Lib.hid (show w.heap.size ≤ MB by rw [hMB]; exact HB2.out.size)
  have HMB2 := Lib.hid hMB
  have HKS := Lib.hid hks
  have HBM := Lib.hid hbm
  have HW3 := Lib.hid (HB2.out.trans (hbm.mono HMB.out))
  clear hks hbm hMB hmm
  go_wp2_with fail
  go_loopw [22] (fun i wr => ∃ k : Nat, k ≤ l.length ∧ i = .int .i64 k ∧ KeySet wr MB k (fun q => hasK (l.take k) q) ∧ Below MB w2 wr) (fun i _ => l.length - (intOf i).toNat)
  case atStart => exact ⟨0, by omega, rfl, HKS.out.same (fun q => rfl), HBM.out⟩
  case round =>
    obtain ⟨k, hk, rfl, hks, hbr⟩ := hrel
    have HKR := Lib.hid hks
    have HBR := Lib.hid hbr
    have HBR0 := Lib.hid (H0.out.trans ((HB2.out.trans (hbr.mono HMB.out)).mono H0.out.size))
    have HBRw := Lib.hid (HB2.out.trans (hbr.mono HMB.out))
    have HMR := Lib.hid hks.lt
    clear hks hbr
    by_cases hlt : k < l.length
    · obtain ⟨d, hd⟩ : ∃ d, l[k]? = some d := ⟨_, List.getElem?_eq_getElem hlt⟩
      obtain ⟨a1, e1, ex, p0, rx⟩ := RdSl.elem HA0.out hd
      subst e1
      obtain ⟨xa, xc, rfl⟩ := RdSl.shape rx
      obtain ⟨c0, c1, c2, c3, c4, c5, c6, c7⟩ := DpC.below p0 HBR0.out
      have HRX := Lib.hid rx
      have HD := Lib.hid hd
      clear p0 rx hd
      have hbb : Below wr.heap.size wr (wr.alloc (.cells #[.string d.g, .string d.a, .string d.v, .string d.t, .string d.c, .int .i64 d.sc, .int .i64 d.op, .slice xa d.ex.length xc] 34)) := (Below.refl _ _).alloc (Nat.le_refl _) _
      have hnew := heap_alloc_new wr (.cells #[.string d.g, .string d.a, .string d.v, .string d.t, .string d.c, .int .i64 d.sc, .int .i64 d.op, .slice xa d.ex.length xc] 34)
      have HBB := Lib.hid hbb
      clear hbb
      go_upto_region 6 with fail
      generalize wr.alloc (.cells #[.string d.g, .string d.a, .string d.v, .string d.t, .string d.c, .int .i64 d.sc, .int .i64 d.op, .slice xa d.ex.length xc] 34) = wb at hnew HBB ⊢
      obtain ⟨KB, hKB⟩ : ∃ b, b = wr.heap.size := ⟨_, rfl⟩
      rw [← hKB] at hnew ⊢
      clear hKB c0 c1 c2 c3 c4 c5 c6 c7
      have HN := Lib.hid hnew
      have r0 : wb.cell? ⟨KB, 0, none⟩ = some (.string d.g) := by rw [cell_of_row wb KB 0 _ _ (0, 0) hnew]; rfl
      have r1 : wb.cell? ⟨KB, 1, none⟩ = some (.string d.a) := by rw [cell_of_row wb KB 1 _ _ (0, 0) hnew]; rfl
      have r2 : wb.cell? ⟨KB, 2, none⟩ = some (.string d.v) := by rw [cell_of_row wb KB 2 _ _ (0, 0) hnew]; rfl
      have r3 : wb.cell? ⟨KB, 3, none⟩ = some (.string d.t) := by rw [cell_of_row wb KB 3 _ _ (0, 0) hnew]; rfl
      have r4 : wb.cell? ⟨KB, 4, none⟩ = some (.string d.c) := by rw [cell_of_row wb KB 4 _ _ (0, 0) hnew]; rfl
      have r5 : wb.cell? ⟨KB, 5, none⟩ = some (.int .i64 d.sc) := by rw [cell_of_row wb KB 5 _ _ (0, 0) hnew]; rfl
      have r6 : wb.cell? ⟨KB, 6, none⟩ = some (.int .i64 d.op) := by rw [cell_of_row wb KB 6 _ _ (0, 0) hnew]; rfl
      have r7 : wb.cell? ⟨KB, 7, none⟩ = some (.slice xa d.ex.length xc) := by rw [cell_of_row wb KB 7 _ _ (0, 0) hnew]; rfl
      clear hnew
      obtain ⟨kx, hkx⟩ : ∃ kx, kx = keyD d := ⟨_, rfl⟩
      have hop : Calls Try.prog 27 #[.agg #[.string d.g, .string d.a, .string d.v, .string d.t, .string d.c, .int .i64 d.sc, .int .i64 d.op, .slice xa d.ex.length xc]] wb fun e w' => e = .returned (.agg #[.string kx.g, .string kx.a, .string kx.t, .string kx.c]) ∧ Below wb.heap.size wb w' := by rw [hkx]; exact UnderKey_any d (.slice xa d.ex.length xc) wb ⟨_, _, rfl⟩
      have HOP := Lib.hid hop
      have HKX := Lib.hid hkx
      clear hop hkx
      go_wp2_with fail
      refine HOP.out.mono ?_
      rintro e w4 ⟨rfl, hb4⟩
      have hks4 := (HKR.out.below HBB.out).below hb4
      obtain ⟨w5, hrun, hks5, hg5⟩ := hks4.update (k := kx) (show okKy kx from HKX.out ▸ HKA.out d (List.mem_of_getElem? HD.out)) (by omega)
      have HKS5 := Lib.hid (hks5.same (g := fun q => hasK (l.take (k + 1)) q) (fun q => by rw [HKX.out]; exact hasK_set HD.out q))
      have HB5 := Lib.hid ((HBR.out.trans ((HBB.out.trans (hb4.mono HBB.out.size)).mono (Nat.le_of_lt HMR.out))).trans ((Below.refl MB w4).grown hg5 (Nat.le_of_lt hks4.lt) (fun q e => by cases e; exact Nat.le_refl _)))
      clear hks4 hks5 hg5 hb4 r0 r1 r2 r3 r4 r5 r6 r7 HOP
      go_wp2
      go_roundw
      case rel => exact ⟨k + 1, by omega, by go_num, HKS5.out, HB5.out⟩
      case measure => simp [intOf]; omega
    · have hle : (l.length : Int) ≤ k := by omega
      have HKL := Lib.hid (show KeySet wr MB l.length (hasK l) by
        have h1 := HKR.out
        rw [List.take_of_length_le (by omega)] at h1
        rwa [show k = l.length by omega] at h1)
      have HOW := Lib.hid (own_below10 HOWN.out (show Below w2.heap.size w2 wr by rw [← HMB2.out]; exact HBR.out))
      generalize hwy : wr = wy at HKL HOW HBRw ⊢
      go_wp2_with fail
      clear HKR hlt hk hle HBR HBR0 HMR hwy wr
      go_loopw [7, 34] (fun v i wr => ∃ (k : Nat) (qs : List (Dp × Value)), k ≤ m.length ∧ i = .int .i64 k ∧ qs.length ≤ l.length + k ∧ qs.map (·.1) = l ++ (m.take k).filter (fun d => !(hasK l (keyD d))) ∧ wr.ownsRow w.heap.size 34 8 v qs.length (rowD qs) ∧ (∀ p ∈ qs, RdXs w0 p.2 p.1.ex) ∧ KeySet wr MB l.length (hasK l) ∧ Below w.heap.size w wr) (fun _ i _ => m.length - (intOf i).toNat)
      case atStart => exact ⟨0, ps, by omega, rfl, by have := HPL.out; omega, by simpa using HPS.out, by have h1 := HOW.out; rw [← HPL.out]; exact h1, HXS.out, HKL.out, HBRw.out⟩
      case round =>
        obtain ⟨k, qs, hk, rfl, hql, hqs, hown, hxs, hks, hbw⟩ := hrel
        have HQS := Lib.hid hqs
        have HOW := Lib.hid hown
        have HXQ := Lib.hid hxs
        have HBW := Lib.hid hbw
        have HKR := Lib.hid hks
        have HBR0 := Lib.hid (H0.out.trans (hbw.mono H0.out.size))
        clear hqs hxs hks
        by_cases hlt : k < m.length
        · obtain ⟨d, hd⟩ : ∃ d, m[k]? = some d := ⟨_, List.getElem?_eq_getElem hlt⟩
          obtain ⟨a1, e1, ex, p0, rx⟩ := RdSl.elem HB0.out hd
          subst e1
          obtain ⟨xa, xc, rfl⟩ := RdSl.shape rx
          obtain ⟨c0, c1, c2, c3, c4, c5, c6, c7⟩ := DpC.below p0 HBR0.out
          have HRX := Lib.hid rx
          have HD := Lib.hid hd
          clear p0 rx hd
          have hbb : Below wr.heap.size wr (wr.alloc (.cells #[.string d.g, .string d.a, .string d.v, .string d.t, .string d.c, .int .i64 d.sc, .int .i64 d.op, .slice xa d.ex.length xc] 34)) := (Below.refl _ _).alloc (Nat.le_refl _) _
          have hnew := heap_alloc_new wr (.cells #[.string d.g, .string d.a, .string d.v, .string d.t, .string d.c, .int .i64 d.sc, .int .i64 d.op, .slice xa d.ex.length xc] 34)
          have HBB := Lib.hid hbb
          clear hbb
          go_upto_region 11 with fail
          generalize wr.alloc (.cells #[.string d.g, .string d.a, .string d.v, .string d.t, .string d.c, .int .i64 d.sc, .int .i64 d.op, .slice xa d.ex.length xc] 34) = wb at hnew HBB ⊢
          obtain ⟨KB, hKB⟩ : ∃ b, b = wr.heap.size := ⟨_, rfl⟩
          rw [← hKB] at hnew ⊢
          clear hKB c0 c1 c2 c3 c4 c5 c6 c7
          have HN := Lib.hid hnew
          have r0 : wb.cell? ⟨KB, 0, none⟩ = some (.string d.g) := by rw [cell_of_row wb KB 0 _ _ (0, 0) hnew]; rfl
          have r1 : wb.cell? ⟨KB, 1, none⟩ = some (.string d.a) := by rw [cell_of_row wb KB 1 _ _ (0, 0) hnew]; rfl
          have r2 : wb.cell? ⟨KB, 2, none⟩ = some (.string d.v) := by rw [cell_of_row wb KB 2 _ _ (0, 0) hnew]; rfl
          have r3 : wb.cell? ⟨KB, 3, none⟩ = some (.string d.t) := by rw [cell_of_row wb KB 3 _ _ (0, 0) hnew]; rfl
          have r4 : wb.cell? ⟨KB, 4, none⟩ = some (.string d.c) := by rw [cell_of_row wb KB 4 _ _ (0, 0) hnew]; rfl
          have r5 : wb.cell? ⟨KB, 5, none⟩ = some (.int .i64 d.sc) := by rw [cell_of_row wb KB 5 _ _ (0, 0) hnew]; rfl
          have r6 : wb.cell? ⟨KB, 6, none⟩ = some (.int .i64 d.op) := by rw [cell_of_row wb KB 6 _ _ (0, 0) hnew]; rfl
          have r7 : wb.cell? ⟨KB, 7, none⟩ = some (.slice xa d.ex.length xc) := by rw [cell_of_row wb KB 7 _ _ (0, 0) hnew]; rfl
          clear hnew
          have HST := Lib.hid (under_step (l := l) HD.out)
          clear hbw hown
          obtain ⟨kx, hkx⟩ : ∃ kx, kx = keyD d := ⟨_, rfl⟩
          have hop : Calls Try.prog 27 #[.agg #[.string d.g, .string d.a, .string d.v, .string d.t, .string d.c, .int .i64 d.sc, .int .i64 d.op, .slice xa d.ex.length xc]] wb fun e w' => e = .returned (.agg #[.string kx.g, .string kx.a, .string kx.t, .string kx.c]) ∧ Below wb.heap.size wb w' := by rw [hkx]; exact UnderKey_any d (.slice xa d.ex.length xc) wb ⟨_, _, rfl⟩
          have HOP := Lib.hid hop
          have HKX := Lib.hid hkx
          clear hop hkx
          go_wp2_with fail
          refine HOP.out.mono ?_
          rintro e w4 ⟨rfl, hb4⟩
          have HKS4 := Lib.hid ((HKR.out.below HBB.out).below hb4)
          have hlook := HKS4.out.look (k := kx) (show okKy kx from HKX.out ▸ HKB.out d (List.mem_of_getElem? HD.out))
          have HB4 := Lib.hid (HBB.out.trans (hb4.mono HBB.out.size))
          have HX4 := Lib.hid hb4
          clear hb4 r0 r1 r2 r3 r4 r5 r6 r7 HOP
          generalize hs : hasK l kx = s at hlook
          have HS := Lib.hid hs
          clear hs
          go_upto_region 12 with fail
          have HB5 := Lib.hid (HB4.out.alloc HB4.out.size (.cells #[] 69))
          have HX5 := Lib.hid (HX4.out.alloc HX4.out.size (.cells #[] 69))
          have HKS5 := Lib.hid (HKS4.out.below ((Below.refl w4.heap.size w4).alloc (Nat.le_refl _) (.cells #[] 69)))
          generalize w4.alloc (.cells #[] 69) = w5 at HB5 HX5 HKS5 ⊢
          clear hlook HKS4 HB4 HX4
          have HB5w := Lib.hid (HBW.out.trans (HB5.out.mono HBW.out.size))
          cases s
          case true =>
            go_wp2
            go_roundw
            case rel => exact ⟨k + 1, qs, by omega, by go_num, by omega, by rw [HST.out, ← HKX.out, HS.out, if_pos rfl, List.append_nil]; exact HQS.out, own_below10 HOW.out HB5.out, HXQ.out, HKS5.out, HB5w.out⟩
            case measure => simp [intOf]; omega
          have hn5 := (HX5.out.block KB (Array.getElem?_eq_some_iff.1 HN.out).1).trans HN.out
          have r0 : w5.cell? ⟨KB, 0, none⟩ = some (.string d.g) := by rw [cell_of_row w5 KB 0 _ _ (0, 0) hn5]; rfl
          have r1 : w5.cell? ⟨KB, 1, none⟩ = some (.string d.a) := by rw [cell_of_row w5 KB 1 _ _ (0, 0) hn5]; rfl
          have r2 : w5.cell? ⟨KB, 2, none⟩ = some (.string d.v) := by rw [cell_of_row w5 KB 2 _ _ (0, 0) hn5]; rfl
          have r3 : w5.cell? ⟨KB, 3, none⟩ = some (.string d.t) := by rw [cell_of_row w5 KB 3 _ _ (0, 0) hn5]; rfl
          have r4 : w5.cell? ⟨KB, 4, none⟩ = some (.string d.c) := by rw [cell_of_row w5 KB 4 _ _ (0, 0) hn5]; rfl
          have r5 : w5.cell? ⟨KB, 5, none⟩ = some (.int .i64 d.sc) := by rw [cell_of_row w5 KB 5 _ _ (0, 0) hn5]; rfl
          have r6 : w5.cell? ⟨KB, 6, none⟩ = some (.int .i64 d.op) := by rw [cell_of_row w5 KB 6 _ _ (0, 0) hn5]; rfl
          have r7 : w5.cell? ⟨KB, 7, none⟩ = some (.slice xa d.ex.length xc) := by rw [cell_of_row w5 KB 7 _ _ (0, 0) hn5]; rfl
          have hown5 := own_below10 HOW.out HB5.out
          have hbase : w.heap.size ≤ w5.heap.size := HB5w.out.size
          clear hn5
          go_wp2_with (at_builtin
                       refine appD d xa d.ex.length xc rfl _ _ rfl w.heap.size qs.length _ _ rfl hown5 rfl (by omega) hbase ?_)
          intro v6 w6 ho hg hb6
          have HO := Lib.hid ho
          have HKS6 := Lib.hid (HKS5.out.kept hg (ks_ne HKS5.out hown5))
          have HB6 := Lib.hid (HB5w.out.trans hb6)
          clear ho hg hb6 hown5 hbase r0 r1 r2 r3 r4 r5 r6 r7
          go_wp2
          go_roundw
          case rel => exact ⟨k + 1, qs ++ [(d, .slice xa d.ex.length xc)], by omega, by go_num, by simp; omega, by rw [HST.out, ← HKX.out, HS.out, if_neg (by simp), List.map_append, HQS.out, List.append_assoc]; rfl, by rw [rowD_app, List.length_append]; simpa [rowD] using HO.out, (fun p hp => by
            rcases List.mem_append.1 hp with hp | hp
            · exact HXQ.out p hp
            · rw [List.mem_singleton.1 hp]; exact HRX.out), HKS6.out, HB6.out⟩
          case measure => simp [intOf]; omega
        · have hle : (m.length : Int) ≤ k := by omega
          have HQ := Lib.hid (show qs.map (·.1) = underL l m by have := HQS.out; rw [List.take_of_length_le (by omega)] at this; exact this)
          have HRD := Lib.hid (show DsK w0 w.heap.size wr _ (underL l m) from ⟨qs, HQ.out, hown, HXQ.out⟩)
          obtain ⟨va, vc, hve⟩ := DsK.shape HRD.out
          subst hve
          clear hown hbw
          go_wp2
          go_ret
          exact ⟨_, rfl, HRD.out, HBW.out⟩
end Go.Proofs.Ytjkmmmmbdfcnbaa
