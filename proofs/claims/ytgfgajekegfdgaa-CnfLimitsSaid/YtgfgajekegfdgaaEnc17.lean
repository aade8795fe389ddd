/-
  Layer 17: the contract of cnf.Encode. Own work.
-/
import Derived.Test.YtgfgajekegfdgaaSize17
import Derived.Deep.WholeRow
namespace Go.Proofs.Ytgfgajekegfdgaa
set_option linter.unusedVariables false
set_option linter.unusedSimpArgs false
open Go.RowKit

theorem enc_results (tmps : Array Value) (w : World) (R : Nat) (cs : Array Value) (hs : cs.size = 2) (e : Value) (h2 : tmps.getD 2 undef = .pointer (some ⟨R, 0, none⟩)) (h3 : tmps.getD 3 undef = e)
    (hR : w.heap[R]? = some (.cells cs 34 (0, 0))) :
    (results Try.f13 tmps).run Try.prog w = .ok (.tuple #[.agg cs, e]) w := by
  have h2' : tmps[2]?.getD undef = .pointer (some ⟨R, 0, none⟩) := by simpa using h2
  have h3' : tmps[3]?.getD undef = e := by simpa using h3
  have l1 := run_loadVar_row w R 34 34 cs (0, 0) _ hR Try.underlying34 rfl (by rw [hs]; kernel_rfl)
  simp [results, Try.results13, h2', h3', asAddr, l1]
theorem below_setRow {w w' : World} {B V : Nat} {cs : Array Value} (h : Below B w w') (hB : B ≤ V) : Below B w (w'.setRow V cs) :=
  ⟨h.os, h.tape, h.output, by simpa using h.size, fun k hk => (setRow_other w' V k cs (by omega)).trans (h.block k hk)⟩
theorem RowsAt.setRow {w : World} {lo V : Nat} {v : Value} {cs : List (List Int)} {cells : Array Value} (h : RowsAt w lo v cs) (hV : V < lo) : RowsAt (w.setRow V cells) lo v cs := by
  obtain ⟨rows, h1, h2⟩ := h
  have hg : w.grownBy (w.setRow V cells) (some V) := ⟨rfl, rfl, rfl, by simp, fun k _ hk => setRow_other w V k cells (fun e => hk (by rw [e]))⟩
  refine ⟨rows, h1.kept hg (.inr fun e => by have := (h1.lt V e).1; omega), fun j c hj => ?_⟩
  obtain ⟨r, a, b, cap, cur, q1, q2, q3, q4⟩ := h2 j c hj
  exact ⟨r, a, b, cap, cur, q1, q2, (setRow_other w V b cells (by omega)).trans q3, q4⟩
def EncP (d : Dl) (w : World) (e : Ending) (w' : World) : Prop :=
  (mayD d ≠ 0 ∧ e = .returned (.tuple #[.agg #[.int .i64 0, .slice none 0 0], .int .i64 (mayD d)]) ∧ Below w.heap.size w w') ∨
  (mayD d = 0 ∧ 16384 < sizeD d ∧ e = .returned (.tuple #[.agg #[.int .i64 0, .slice none 0 0], .int .i64 2]) ∧ Below w.heap.size w w') ∨
  (mayD d = 0 ∧ sizeD d ≤ 16384 ∧ ∃ v lo, e = .returned (.tuple #[.agg #[.int .i64 d.its.length, v], .int .i64 0]) ∧ w.heap.size ≤ lo ∧ RowsAt w' lo v (encL d) ∧ Below w.heap.size w w')
set_option maxRecDepth 100000 in
set_option maxHeartbeats 8000000 in
theorem Encode_any (d : Dl) (vi vw : Value) (hf : fewW d.ws) (hi : d.its.length ≤ 2000) (hw : d.ws.length ≤ 2000) (hok : ∀ x ∈ d.its, okIt x) (w : World) (hr : RdD w vi vw d) :
    Calls Try.prog 13 #[dealV vi vw d.root] w (EncP d w) := by
  obtain ⟨ai, ci, aw, cw, rfl, rfl⟩ := hr.shape
  have hb0 : Below w.heap.size w ((w.alloc (.cells #[.slice ai d.its.length ci, .slice aw d.ws.length cw, .int .i64 d.root] 25)).alloc (.cells #[.int .i64 0, .slice none 0 0] 34)) := ((Below.refl w.heap.size w).alloc (Nat.le_refl _) _).alloc (by simp) _
  have hk : DlIn ((w.alloc (.cells #[.slice ai d.its.length ci, .slice aw d.ws.length cw, .int .i64 d.root] 25)).alloc (.cells #[.int .i64 0, .slice none 0 0] 34)) w.heap.size (.slice ai d.its.length ci) (.slice aw d.ws.length cw) d.root := (DlIn.new w _ _ _).below ((Below.refl _ _).alloc (Nat.le_refl _) _) (Nat.le_refl _)
  have hR : ((w.alloc (.cells #[.slice ai d.its.length ci, .slice aw d.ws.length cw, .int .i64 d.root] 25)).alloc (.cells #[.int .i64 0, .slice none 0 0] 34)).heap[w.heap.size + 1]? = some (.cells #[.int .i64 0, .slice none 0 0] 34 (0, 0)) := by
    have := heap_alloc_new (w.alloc (.cells #[.slice ai d.its.length ci, .slice aw d.ws.length cw, .int .i64 d.root] 25)) (.cells #[.int .i64 0, .slice none 0 0] 34)
    simpa using this
  have HR := Lib.hid (hr.below hb0 (Nat.le_refl _))
  have HB0 := Lib.hid hb0
  have HOK := Lib.hid hok
  have HF := Lib.hid hf
  have hmay := fun w' hr => May_any d (.slice ai d.its.length ci) (.slice aw d.ws.length cw) w' hr
  have hsize := fun w' hr => size_any d (.slice ai d.its.length ci) (.slice aw d.ws.length cw) hf hi hw hok w' hr
  unfold dealV at hmay hsize ⊢
  have HMAY := Lib.hid hmay
  have HSIZE := Lib.hid hsize
  clear hr hb0 hok hf hmay hsize
  go_enter Try.func13, Try.ntmps13
  go_upto_region 1 with fail
  generalize (w.alloc (.cells #[.slice ai d.its.length ci, .slice aw d.ws.length cw, .int .i64 d.root] 25)).alloc (.cells #[.int .i64 0, .slice none 0 0] 34) = w1 at hk hR HR HB0 ⊢
  obtain ⟨R, hRe⟩ : ∃ R, R = w.heap.size + 1 := ⟨_, rfl⟩
  rw [← hRe] at hR
  simp only [← hRe]
  have HRG := Lib.hid (show w.heap.size ≤ R from by omega)
  clear hRe
  generalize w.heap.size = D at hk ⊢
  have HRR := Lib.hid hR
  have HRL := Lib.hid (show R < w1.heap.size from (Array.getElem?_eq_some_iff.1 hR).1)
  have HK := Lib.hid hk
  obtain ⟨x0, x1, x2⟩ := hk
  clear hR
  go_wp2_with fail
  refine (HMAY.out _ HR.out).mono ?_
  rintro e w2 ⟨rfl, hb2⟩
  have HB2 := Lib.hid hb2
  clear x0 x1 x2 hb2
  by_cases hm : mayD d = 0
  case neg =>
    have HM := Lib.hid hm
    have hne : (mayD d != 0) = true := by simpa using hm
    have HR2 := Lib.hid ((HB2.out.block R HRL.out).trans HRR.out)
    clear hm
    go_wp2_with (refine wpList_store_row rfl 34 _ _ rfl R #[.int .i64 0, .slice none 0 0] rfl rfl 34 _ HR2.out (by kernel_rfl) rfl (by simp [Value.oneCell']) ?_)
    refine bodyPost_ret (enc_results _ _ R #[.int .i64 0, .slice none 0 0] rfl _ rfl rfl (setRow_heap w2 R _ _ _ _ HR2.out)) rfl ?_
    exact .inl ⟨HM.out, rfl, below_setRow (HB0.out.trans (HB2.out.mono HB0.out.size)) HRG.out⟩
  have HM := Lib.hid hm
  rw [hm]
  clear hm
  obtain ⟨h1024, hroot, hlen, hall⟩ := mayD_zero HM.out
  have HALL := Lib.hid hall
  have HLEN := Lib.hid hlen
  clear hlen hall
  obtain ⟨hroot0, hroot1⟩ := hroot
  obtain ⟨x0, x1, x2⟩ := HK.out.below HB2.out (Nat.le_refl _)
  go_wp2_with fail
  refine (HSIZE.out _ (HR.out.below HB2.out (Nat.le_refl _))).mono ?_
  rintro e w3 ⟨rfl, hb3⟩
  have HB3 := Lib.hid (HB2.out.trans (hb3.mono HB2.out.size))
  have HR3 := Lib.hid ((HB3.out.block R HRL.out).trans HRR.out)
  clear x0 x1 x2 hb3 HB2
  by_cases hbig : 16384 < sizeD d
  case pos =>
    have HBIG := Lib.hid hbig
    have hbigI : (16384 : Int) < sizeD d := by omega
    clear hbig
    go_wp2_with (refine wpList_store_row rfl 34 _ _ rfl R #[.int .i64 0, .slice none 0 0] rfl rfl 34 _ HR3.out (by kernel_rfl) rfl (by simp [Value.oneCell']) ?_)
    refine bodyPost_ret (enc_results _ _ R #[.int .i64 0, .slice none 0 0] rfl _ rfl rfl (setRow_heap w3 R _ _ _ _ HR3.out)) rfl ?_
    exact .inr (.inl ⟨HM.out, HBIG.out, rfl, below_setRow (HB0.out.trans (HB3.out.mono HB0.out.size)) HRG.out⟩)
  have hsm : ((sizeD d : Nat) : Int) ≤ 16384 := by omega
  have HSM := Lib.hid (show sizeD d ≤ 16384 from by omega)
  have HES := Lib.hid (encL_size d)
  clear hbig
  generalize ((sizeD d : Nat) : Int) = SZ at hsm
  have hN : (d.its.length : Int) ≤ 1024 := by omega
  have hq0 := QCls.new w3 d.its.length
  have hbq : Below w3.heap.size w3 (w3.alloc (.cells #[.int .i64 d.its.length, .slice none 0 0] 34)) := (Below.refl _ _).alloc (Nat.le_refl _) _
  obtain ⟨x0, x1, x2⟩ := HK.out.below HB3.out (Nat.le_refl _)
  go_upto_region 7 with fail
  obtain ⟨Q, hQ⟩ : ∃ Q, Q = w3.heap.size := ⟨_, rfl⟩
  rw [← hQ] at hq0 ⊢
  have HQ := Lib.hid hQ
  have HBQ := Lib.hid hbq
  clear hQ hbq x0 x1 x2
  generalize w3.alloc (.cells #[.int .i64 d.its.length, .slice none 0 0] 34) = w4 at hq0 HBQ ⊢
  have HQ0 := Lib.hid hq0
  have HQR := Lib.hid (show R < Q from by have := HB3.out.size; have := HRL.out; have := HQ.out; omega)
  clear hq0
  -- what is kept of the memory below Q
  have HLOW := Lib.hid (fun (wr : World) (hb : Below w3.heap.size w3 wr) => (⟨HB3.out.trans (hb.mono HB3.out.size), HR.out.below (HB3.out.trans (hb.mono HB3.out.size)) (Nat.le_refl _), HK.out.below (HB3.out.trans (hb.mono HB3.out.size)) (Nat.le_refl _)⟩ : Below w1.heap.size w1 wr ∧ RdD wr (.slice ai d.its.length ci) (.slice aw d.ws.length cw) d ∧ DlIn wr D (.slice ai d.its.length ci) (.slice aw d.ws.length cw) d.root))
  obtain ⟨_, _, x0, x1, x2⟩ := HLOW.out w4 HBQ.out
  go_wp2_with fail
  refine (var_any d.root (by omega) (by omega) _).mono ?_
  rintro e w' ⟨rfl, rfl⟩
  have hrow := RowAt.made w4 (Q + 1) [d.root + 1] (by have := HBQ.out.size; have := HQ0.out; obtain ⟨_, h, _⟩ := this; exact (Array.getElem?_eq_some_iff.1 h).1) (by simp)
  have hba : Below w4.heap.size w4 (w4.alloc (.cells #[.int .i64 (d.root + 1)] 3)) := (Below.refl _ _).alloc (Nat.le_refl _) _
  have hadd := addQ_any Q d.its.length [] _ _ _ (HQ0.out.below hba) hrow (by simp)
  have HADD := Lib.hid hadd
  have HBA := Lib.hid (HBQ.out.trans (hba.mono HBQ.out.size))
  clear hrow hba hadd x0 x1 x2
  go_wp2_with fail
  refine HADD.out.mono ?_
  rintro e w5 ⟨rfl, hq5, hb5, -⟩
  have HQ5 := Lib.hid hq5
  have HB5 := Lib.hid (show Below w3.heap.size w3 w5 from HBA.out.trans (by rw [← HQ.out]; exact hb5))
  clear HADD HBA hq5 hb5
  obtain ⟨_, _, x0, x1, x2⟩ := HLOW.out w5 HB5.out
  go_wp2_with fail
  clear x0 x1 x2
  go_loopw [42] (fun i wr => ∃ k : Nat, k ≤ d.ws.length ∧ i = .int .i64 k ∧ QCls wr Q d.its.length ([d.root + 1] :: clsTo d.ws k) ∧ Below w3.heap.size w3 wr) (fun i _ => d.ws.length - (intOf i).toNat)
  case atStart => exact ⟨0, by omega, rfl, HQ5.out, HB5.out⟩
  case round =>
    obtain ⟨k, hkl, rfl, hq, hb⟩ := hrel
    obtain ⟨hb1, hrd, hkr⟩ := HLOW.out _ hb
    have HB := Lib.hid hb
    have HQC := Lib.hid hq
    by_cases hlt : k < d.ws.length
    · obtain ⟨x, hx⟩ : ∃ x, d.ws[k]? = some x := ⟨_, List.getElem?_eq_getElem hlt⟩
      obtain ⟨b, r, rfl, hc1, hrx⟩ := RdOf.elem HR.out.w hx
      obtain ⟨xa, xc, rfl⟩ := RdOf.shape hrx
      have hc := (hb1.cell (World.block_lt_of_cell? w1 _ hc1)).trans hc1
      have hxl : x.length ≤ 10 := (HF.out x (List.mem_of_getElem? hx)).1
      have hxlI : (x.length : Int) ≤ 10 := by omega
      have hwk := List.all_eq_true.1 HALL.out x (List.mem_of_getElem? hx)
      have HWK := Lib.hid hwk
      have HX := Lib.hid hx
      have hkI : (k : Int) ≤ 1024 := by have := HLEN.out; omega
      have hk0 : (0 : Int) ≤ k := by omega
      have HRX := Lib.hid hrx
      have HKL := Lib.hid (clsTo_at hx)
      clear hb1 hrd hkr hq hb hrx hx hwk hc1
      go_wp2_with fail
      clear hc
      go_loopw [49] (fun i wq => ∃ q : Nat, q ≤ x.length ∧ i = .int .i64 q ∧ QCls wq Q d.its.length ([d.root + 1] :: (clsTo d.ws k ++ clsI k (x.take q))) ∧ Below w3.heap.size w3 wq ∧ Below Q wr wq) (fun i _ => x.length - (intOf i).toNat)
      case atStart => exact ⟨0, by omega, rfl, by simpa [clsI] using HQC.out, HB.out, Below.refl _ _⟩
      case round =>
        obtain ⟨q, hql, rfl, hq, hb, hbo⟩ := hrel
        obtain ⟨hb1, _, _⟩ := HLOW.out _ hb
        have HB1 := Lib.hid hb1
        have HBq := Lib.hid hb
        have HQq := Lib.hid hq
        have HBO := Lib.hid hbo
        by_cases hlt2 : q < x.length
        · obtain ⟨y, hy⟩ : ∃ y, x[q]? = some y := ⟨_, List.getElem?_eq_getElem hlt2⟩
          obtain ⟨b2, r2, rfl, hc2, hry⟩ := RdOf.elem HRX.out hy
          obtain ⟨ya, yc, rfl⟩ := Reads.shape hry
          have hcq := (hb1.cell (World.block_lt_of_cell? w1 _ hc2)).trans hc2
          have hyl : y.length ≤ 40 := (HF.out x (List.mem_of_getElem? HX.out)).2 y (List.mem_of_getElem? hy)
          have hylI : (y.length : Int) ≤ 40 := by omega
          have HWY := Lib.hid (List.all_eq_true.1 HWK.out y (List.mem_of_getElem? hy))
          have HSQ := Lib.hid (clsI_snoc (i := k) hy)
          have HRY := Lib.hid hry
          have hQL : Q + 1 ≤ wr.heap.size := by obtain ⟨_, h, _⟩ := hq; exact (Array.getElem?_eq_some_iff.1 h).1
          have HQL := Lib.hid hQL
          have hlit := World.ownsRow_lit (e := 3) (size := 1) (base := wr.heap.size) wr #[.int .i64 (-((k : Int) + 1))] 1 (Nat.le_refl _) (by unfold maxLen; omega) rfl
          have hba : Below wr.heap.size wr (wr.alloc (.cells #[.int .i64 (-((k : Int) + 1))] 3)) := (Below.refl _ _).alloc (Nat.le_refl _) _
          have HLIT := Lib.hid hlit
          have HBA := Lib.hid hba
          clear hb1 hq hb hbo hc2 hry hy hQL hlit hba
          go_wp2_with fail
          refine (var_any k (by omega) (by omega) _).mono ?_
          rintro e w' ⟨rfl, rfl⟩
          clear hcq
          go_upto_region 16 with fail
          obtain ⟨L, hL⟩ : ∃ L, L = wr.heap.size := ⟨_, rfl⟩
          rw [← hL] at HLIT HBA HQL ⊢
          have HL := Lib.hid hL
          clear hL
          generalize wr.alloc (.cells #[.int .i64 (-((k : Int) + 1))] 3) = w6 at HLIT HBA ⊢
          go_wp2_with fail
          go_loopw [11, 59] (fun v i wq => ∃ p : Nat, p ≤ y.length ∧ i = .int .i64 p ∧ wq.ownsRow L 3 1 v (p + 1) ((clsW k (y.take p)).map iV) ∧ Below L wr wq) (fun _ i _ => y.length - (intOf i).toNat)
          case atStart => exact ⟨0, by omega, rfl, by simpa [clsW, iV] using HLIT.out, HBA.out⟩
          case round =>
            obtain ⟨p, hpl, rfl, hown, hq⟩ := hrel
            have HQB := Lib.hid hq
            have hb1 := HB1.out.trans (hq.mono (by rw [HL.out]; exact HB1.out.size))
            by_cases hlt3 : p < y.length
            · obtain ⟨n, hn⟩ : ∃ n, y[p]? = some n := ⟨_, List.getElem?_eq_getElem hlt3⟩
              obtain ⟨b3, rfl, hc3⟩ := Reads.elem HRY.out hn
              unfold iV at hc3
              have hcn := (hb1.cell (World.block_lt_of_cell? w1 _ hc3)).trans hc3
              obtain ⟨hn0, hn1⟩ := inB_iff.1 (List.all_eq_true.1 HWY.out n (List.mem_of_getElem? hn))
              have HSN := Lib.hid (show (clsW k (y.take (p + 1))).map iV = (clsW k (y.take p)).map iV ++ [.int .i64 (n + 1)] from by rw [clsW_snoc hn, List.map_append]; rfl)
              have hwz : L ≤ wr.heap.size := by have := hq.size; have := HL.out; omega
              have HWZ := Lib.hid hwz
              clear hb1 hc3 hn hq hwz
              go_wp2_with fail
              refine (var_any n (by omega) (by omega) _).mono ?_
              rintro e w' ⟨rfl, rfl⟩
              go_wp2_with (at_builtin
                           refine app1 rfl _ _ 39 3 rfl (.int .i64 0) 8 L (p + 1) Try.underlying39 int_info rfl _ _ rfl hown rfl rfl (by omega) (by omega) HWZ.out ?_)
              intro v' w' ho' hg' hb'
              have HO := Lib.hid ho'
              have HBp := Lib.hid (HQB.out.trans hb')
              clear ho' hg' hb' hown hcn
              go_wp2
              go_roundw
              case rel => exact ⟨p + 1, by omega, by go_num, by rw [HSN.out]; exact HO.out, HBp.out⟩
              case measure => simp [intOf]; omega
            · have hpe : (y.length : Int) ≤ p := by omega
              have hpy : y.take p = y := List.take_of_length_le (by omega)
              rw [hpy] at hown
              have hln : (clsW k y).length = p + 1 := by unfold clsW; simp; omega
              rw [← hln] at hown
              have hrow := RowAt.of_own (lo := Q + 1) hown HQL.out (by rw [hln]; omega)
              obtain ⟨va, vc, hve⟩ : ∃ a c, _ = Value.slice a (clsW k y).length c := by
                obtain ⟨b, cap, cur, h, _⟩ := hrow
                exact ⟨_, _, h⟩
              have hadd := addQ_any Q d.its.length _ _ _ _ (HQq.out.below (by rw [← HL.out]; exact hq)) hrow (by
                have h1 := cls_len d.ws k
                have h2 := lenTo_le HF.out k
                have h3 : (clsI k (x.take q)).length ≤ q := by unfold clsI; rw [List.length_map]; exact List.length_take_le _ _
                simp only [List.length_cons, List.length_append]
                omega)
              have HADD := Lib.hid hadd
              have HROW := Lib.hid hrow
              have HQ8 := Lib.hid hq
              clear hown hrow hadd hb1 hq hpy hln hve
              go_wp2_with fail
              refine HADD.out.mono ?_
              rintro e w8 ⟨rfl, hq8, hb8, -⟩
              have HQ9 := Lib.hid (show QCls w8 Q d.its.length ([d.root + 1] :: (clsTo d.ws k ++ clsI k (x.take (q + 1)))) from by rw [HSQ.out]; simpa [List.append_assoc] using hq8)
              have HB9 := Lib.hid (HBq.out.trans (((HQ8.out.mono (by have := HBq.out.size; have := HL.out; omega)).trans (hb8.mono (by rw [HQ.out]; exact Nat.le_refl _)))))
              have HBO9 := Lib.hid (HBO.out.trans ((HQ8.out.mono (by have := HQL.out; omega)).trans hb8))
              clear hq8 hb8 HADD
              go_wp2
              go_roundw
              case rel => exact ⟨q + 1, by omega, by go_num, HQ9.out, HB9.out, HBO9.out⟩
              case measure => simp [intOf]; omega
        · have hqe : (x.length : Int) ≤ q := by omega
          have HQ9 := Lib.hid (show QCls wr Q d.its.length ([d.root + 1] :: clsTo d.ws (k + 1)) from by rw [HKL.out]; rw [List.take_of_length_le (by omega)] at hq; exact hq)
          clear hq hb hbo hb1
          go_wp2
          go_roundw
          case rel => exact ⟨k + 1, by omega, by go_num, HQ9.out, HBq.out⟩
          case measure => simp [intOf]; omega
    · have hke : k = d.ws.length := by omega
      have hle : (d.ws.length : Int) ≤ k := by omega
      have HQW := Lib.hid (show QCls wr Q d.its.length ([d.root + 1] :: (clsTo d.ws d.ws.length ++ alTo d.its 0)) from by rw [← hke]; simpa [alTo] using hq)
      obtain ⟨x0, x1, x2⟩ := hkr
      clear hq hb hb1 hrd hke
      go_wp2_with fail
      clear x0 x1 x2
      go_loopw [77] (fun i wq => ∃ j : Nat, j ≤ d.its.length ∧ i = .int .i64 j ∧ QCls wq Q d.its.length ([d.root + 1] :: (clsTo d.ws d.ws.length ++ alTo d.its j)) ∧ Below w3.heap.size w3 wq) (fun i _ => d.its.length - (intOf i).toNat)
      case atStart => exact ⟨0, by omega, rfl, HQW.out, HB.out⟩
      case round =>
        obtain ⟨j, hjl, rfl, hq, hb⟩ := hrel
        obtain ⟨hb1, hrd, hkr⟩ := HLOW.out _ hb
        have HBj := Lib.hid hb
        have HQj := Lib.hid hq
        by_cases hltj : j < d.its.length
        · obtain ⟨x, hx⟩ : ∃ x, d.its[j]? = some x := ⟨_, List.getElem?_eq_getElem hltj⟩
          obtain ⟨bi, hbi, hit⟩ := RdI.elem hrd.i hx
          subst hbi
          have HX := Lib.hid hx
          have HAT := Lib.hid (alTo_snoc d.its j)
          have hbA : Below wr.heap.size wr (wr.alloc (.cells #[.string x.k.g, .string x.k.a, .string x.k.t, .string x.k.c, .string x.v] 50)) := (Below.refl _ _).alloc (Nat.le_refl _) _
          have HQA := Lib.hid (hq.below hbA)
          have HBA := Lib.hid (hb.trans (hbA.mono hb.size))
          have hrow := heap_alloc_new wr (.cells #[.string x.k.g, .string x.k.a, .string x.k.t, .string x.k.c, .string x.v] 50)
          have hjI : (j : Int) ≤ 1024 := by omega
          have hj0 : (0 : Int) ≤ j := by omega
          obtain ⟨i0, i1, i2, i3, i4⟩ := hit
          obtain ⟨x0, x1, x2⟩ := hkr
          clear hb1 hrd hq hb hx hbA
          go_upto_region 27 with fail
          generalize wr.alloc (.cells #[.string x.k.g, .string x.k.a, .string x.k.t, .string x.k.c, .string x.v] 50) = wa at HQA HBA hrow ⊢
          generalize wr.heap.size = N1 at hrow ⊢
          have HROW := Lib.hid hrow
          clear i0 i1 i2 i3 i4 x0 x1 x2 hrow
          go_wp2_with fail
          go_loopw [16] (fun kv wq => ∃ m : Nat, j + 1 ≤ m ∧ m ≤ d.its.length ∧ kv = .int .i64 m ∧ QCls wq Q d.its.length ([d.root + 1] :: (clsTo d.ws d.ws.length ++ (alTo d.its j ++ alI d.its j m))) ∧ Below w3.heap.size w3 wq ∧ wq.heap[N1]? = some (.cells #[.string x.k.g, .string x.k.a, .string x.k.t, .string x.k.c, .string x.v] 50 (0, 0))) (fun kv _ => d.its.length - (intOf kv).toNat)
          case atStart => exact ⟨j + 1, by omega, by omega, by go_num, by rw [alI_start _ _ _ (Nat.le_refl _), List.append_nil]; exact HQA.out, HBA.out, HROW.out⟩
          case round =>
            obtain ⟨m, hmj, hml, rfl, hq, hb, hrow⟩ := hrel
            obtain ⟨hb1, hrd, x0, x1, x2⟩ := HLOW.out _ hb
            have HBm := Lib.hid hb
            have HQm := Lib.hid hq
            have HRm := Lib.hid hrow
            obtain ⟨K, hK⟩ : ∃ K : Int, K = (m : Int) := ⟨_, rfl⟩
            have hKt : K.toNat = m := by omega
            have hK0 : (0 : Int) ≤ K := by omega
            have hK1 : K ≤ 1024 := by omega
            have HKm := Lib.hid hK
            rw [← hK]
            by_cases hltm : m < d.its.length
            · obtain ⟨y, hy⟩ : ∃ y, d.its[m]? = some y := ⟨_, List.getElem?_eq_getElem hltm⟩
              obtain ⟨bj, hbj, hit⟩ := RdI.elem hrd.i hy
              cases hbj
              rw [← hKt] at hit
              have hltK : K < d.its.length := by omega
              have HSA := Lib.hid (sameAt_is HX.out hy)
              have HAI := Lib.hid (alI_snoc d.its j m)
              have hEQ := fun w => eq_key y.k x.k w
              have hdj : decide (j < m) = true := decide_eq_true (by omega)
              have HDJ := Lib.hid hdj
              generalize sameK y.k x.k = s at hEQ HSA
              have k0 : wr.cell? ⟨N1, 0, none⟩ = some (.string x.k.g) := by rw [cell_of_row wr N1 0 _ _ (0, 0) hrow]; rfl
              have k1 : wr.cell? ⟨N1, 1, none⟩ = some (.string x.k.a) := by rw [cell_of_row wr N1 1 _ _ (0, 0) hrow]; rfl
              have k2 : wr.cell? ⟨N1, 2, none⟩ = some (.string x.k.t) := by rw [cell_of_row wr N1 2 _ _ (0, 0) hrow]; rfl
              have k3 : wr.cell? ⟨N1, 3, none⟩ = some (.string x.k.c) := by rw [cell_of_row wr N1 3 _ _ (0, 0) hrow]; rfl
              obtain ⟨i0, i1, i2, i3, i4⟩ := hit
              have HQD := Lib.hid (show QCls wr.drew Q d.its.length _ from HQm.out)
              have HBD := Lib.hid (show Below w3.heap.size w3 wr.drew from HBm.out.drew)
              have HRD := Lib.hid (show wr.drew.heap[N1]? = _ from HRm.out)
              clear hb1 hrd hq hb hrow hy hK hKt hdj i4
              go_upto_region 30 with fail
              refine wp_region_held_drew (S := (fun w' => w'.cell? ⟨D, 0, none⟩ = some (.slice (some bi) d.its.length ci) ∧ (w'.cell? (bi.add (K.toNat * 5)) = some (.string y.k.g) ∧ (w'.cell? ⟨(bi.add (K.toNat * 5)).block, (bi.add (K.toNat * 5)).off + 1, none⟩ = some (.string y.k.a) ∧ (w'.cell? ⟨(bi.add (K.toNat * 5)).block, (bi.add (K.toNat * 5)).off + 2, none⟩ = some (.string y.k.t) ∧ (w'.cell? ⟨(bi.add (K.toNat * 5)).block, (bi.add (K.toNat * 5)).off + 3, none⟩ = some (.string y.k.c) ∧ (w'.cell? ⟨N1, 0, none⟩ = some (.string x.k.g) ∧ (w'.cell? ⟨N1, 1, none⟩ = some (.string x.k.a) ∧ (w'.cell? ⟨N1, 2, none⟩ = some (.string x.k.t) ∧ w'.cell? ⟨N1, 3, none⟩ = some (.string x.k.c)))))))))) (by kernel_rfl) (by (try dsimp only); exact ⟨x0, i0, i1, i2, i3, k0, k1, k2, k3⟩) (fun hHeld => ?_)
              refine wpAnyH_take (i := 0) (v := ?_) (by (simp only [List.getElem?_toArray, List.getElem?_cons_succ, List.getElem?_cons_zero]; rfl)) (by kernel_rfl) (by kernel_rfl) (by kernel_rfl) (by intro _ _ _ h; exact h) (Or.inl ⟨by rfl, ?_⟩) (by assumption) ?_
              rotate_left
              · (intro w hSw; (try dsimp only at hSw); go_simp; try (with_reducible rfl))
              simp only [Act.put, List.setIfInBounds_toArray, List.set_cons_zero, List.set_cons_succ]
              refine wpAnyH_take (i := 1) (v := ?_) (by (simp only [List.getElem?_toArray, List.getElem?_cons_succ, List.getElem?_cons_zero]; rfl)) (by kernel_rfl) (by kernel_rfl) (by kernel_rfl) (by intro _ _ _ h; exact h) (Or.inl ⟨by rfl, ?_⟩) (by assumption) ?_
              rotate_left
              · (intro w hSw; (try dsimp only at hSw); go_simp; try (with_reducible rfl))
              simp only [Act.put, List.setIfInBounds_toArray, List.set_cons_zero, List.set_cons_succ]
              refine wpAnyH_take (i := 2) (v := ?_) (by (simp only [List.getElem?_toArray, List.getElem?_cons_succ, List.getElem?_cons_zero]; rfl)) (by kernel_rfl) (by kernel_rfl) (by kernel_rfl) (by intro _ _ _ h; exact h) (Or.inl ⟨by rfl, ?_⟩) (by assumption) ?_
              rotate_left
              · (intro w hSw; (try dsimp only at hSw); go_simp; try (with_reducible rfl))
              simp only [Act.put, List.setIfInBounds_toArray, List.set_cons_zero, List.set_cons_succ]
              refine wpAnyH_take (i := 3) (v := ?_) (by (simp only [List.getElem?_toArray, List.getElem?_cons_succ, List.getElem?_cons_zero]; rfl)) (by kernel_rfl) (by kernel_rfl) (by kernel_rfl) (by intro _ _ _ h; exact h) (Or.inl ⟨by rfl, ?_⟩) (by assumption) ?_
              rotate_left
              · (intro w hSw; (try dsimp only at hSw); go_simp; try (with_reducible rfl))
              simp only [Act.put, List.setIfInBounds_toArray, List.set_cons_zero, List.set_cons_succ]
              refine wpAnyH_take (i := 4) (v := ?_) (by (simp only [List.getElem?_toArray, List.getElem?_cons_succ, List.getElem?_cons_zero]; rfl)) (by kernel_rfl) (by kernel_rfl) (by kernel_rfl) (by intro _ _ _ h; exact h) (Or.inl ⟨by rfl, ?_⟩) (by assumption) ?_
              rotate_left
              · (intro w hSw; (try dsimp only at hSw); go_simp; try (with_reducible rfl))
              simp only [Act.put, List.setIfInBounds_toArray, List.set_cons_zero, List.set_cons_succ]
              refine wpAnyH_take (i := 5) (v := ?_) (by (simp only [List.getElem?_toArray, List.getElem?_cons_succ, List.getElem?_cons_zero]; rfl)) (by kernel_rfl) (by kernel_rfl) (by kernel_rfl) (by intro _ _ _ h; exact h) (Or.inl ⟨by rfl, ?_⟩) (by assumption) ?_
              rotate_left
              · (intro w hSw; (try dsimp only at hSw); go_simp; try (with_reducible rfl))
              simp only [Act.put, List.setIfInBounds_toArray, List.set_cons_zero, List.set_cons_succ]
              refine wpAnyH_take (i := 6) (v := ?_) (by (simp only [List.getElem?_toArray, List.getElem?_cons_succ, List.getElem?_cons_zero]; rfl)) (by kernel_rfl) (by kernel_rfl) (by kernel_rfl) (by intro _ _ _ h; exact h) (Or.inl ⟨by rfl, ?_⟩) (by assumption) ?_
              rotate_left
              · (intro w hSw; (try dsimp only at hSw); go_simp; try (with_reducible rfl))
              simp only [Act.put, List.setIfInBounds_toArray, List.set_cons_zero, List.set_cons_succ]
              refine wpAnyH_take (i := 7) (v := ?_) (by (simp only [List.getElem?_toArray, List.getElem?_cons_succ, List.getElem?_cons_zero]; rfl)) (by kernel_rfl) (by kernel_rfl) (by kernel_rfl) (by intro _ _ _ h; exact h) (Or.inl ⟨by rfl, ?_⟩) (by assumption) ?_
              rotate_left
              · (intro w hSw; (try dsimp only at hSw); go_simp; try (with_reducible rfl))
              simp only [Act.put, List.setIfInBounds_toArray, List.set_cons_zero, List.set_cons_succ]
              refine wpAnyH_take (i := 8) (v := ?_) (by (simp only [List.getElem?_toArray, List.getElem?_cons_succ, List.getElem?_cons_zero]; rfl)) (by kernel_rfl) (by kernel_rfl) (by kernel_rfl) (by intro _ _ _ h; exact h) (Or.inl ⟨by rfl, ?_⟩) (by assumption) ?_
              rotate_left
              · (intro w hSw; (try dsimp only at hSw); go_simp; try (with_reducible rfl))
              simp only [Act.put, List.setIfInBounds_toArray, List.set_cons_zero, List.set_cons_succ]
              clear hHeld
              refine wpAnyH_done (by kernel_rfl) ?_ _
              generalize wr.drew = wd at HQD HBD HRD ⊢
              clear x0 x1 x2 k0 k1 k2 k3 i0 i1 i2 i3 hEQ
              cases s
              · go_wp2
                go_roundw
                case rel => exact ⟨m + 1, by omega, by omega, by rw [HKm.out]; go_num, by rw [HAI.out, HDJ.out, HSA.out]; simpa using HQD.out, HBD.out, HRD.out⟩
                case measure => rw [HKm.out]; simp [intOf]; omega
              · have hrow2 := RowAt.made wd (Q + 1) (pairC j m) (by obtain ⟨_, h, _⟩ := HQD.out; exact (Array.getElem?_eq_some_iff.1 h).1) (by simp [pairC])
                have hba : Below wd.heap.size wd (wd.alloc (.cells ((pairC j m).map iV).toArray 3)) := (Below.refl _ _).alloc (Nat.le_refl _) _
                have hadd := addQ_any Q d.its.length _ _ _ _ (HQD.out.below hba) hrow2 (by
                  have h1 := cls_len d.ws d.ws.length
                  have h2 := lenTo_le HF.out d.ws.length
                  have h3 := alTo_len_le d.its j
                  have h4 := alI_len_le d.its j m
                  have h5 : j * d.its.length ≤ 1024 * 1024 := Nat.mul_le_mul (by omega) (by omega)
                  have h6 := HSM.out
                  have h7 := HES.out
                  simp only [List.length_cons, List.length_append]
                  have h8 := al_part_le d hltj hml
                  omega)
                have HADD := Lib.hid hadd
                have HBW := Lib.hid (HBD.out.trans (hba.mono HBD.out.size))
                have HRW := Lib.hid ((hba.block N1 (Array.getElem?_eq_some_iff.1 HRD.out).1).trans HRD.out)
                clear hrow2 hba hadd
                go_wp2_with fail
                refine (var_any j (by omega) (by omega) _).mono ?_
                rintro e w' ⟨rfl, rfl⟩
                go_wp2_with fail
                refine (var_any K (by omega) (by omega) _).mono ?_
                rintro e w' ⟨rfl, rfl⟩
                rw [HKm.out]
                go_wp2_with fail
                refine HADD.out.mono ?_
                rintro e w8 ⟨rfl, hq8, hb8, hs8⟩
                have HQ9 := Lib.hid (show QCls w8 Q d.its.length ([d.root + 1] :: (clsTo d.ws d.ws.length ++ (alTo d.its j ++ alI d.its j (m + 1)))) from by rw [HAI.out, HDJ.out, HSA.out]; simpa [List.append_assoc] using hq8)
                have HB9 := Lib.hid (HBW.out.trans (hb8.mono (by rw [HQ.out]; exact Nat.le_refl _)))
                have HR9 := Lib.hid ((hs8 N1 _ HRW.out).trans HRW.out)
                clear hq8 hb8 hs8 HADD
                go_wp2
                go_roundw
                case rel => exact ⟨m + 1, by omega, by omega, by go_num, HQ9.out, HB9.out, HR9.out⟩
                case measure => have := HKm.out; simp [intOf]; omega
            · have hle : (d.its.length : Int) ≤ K := by omega
              have HQ9 := Lib.hid (show QCls wr Q d.its.length ([d.root + 1] :: (clsTo d.ws d.ws.length ++ alTo d.its (j + 1))) from by rw [HAT.out]; rw [show m = d.its.length by omega] at hq; exact hq)
              clear hq hb hrow hb1 hrd hK hKt
              go_wp2
              go_roundw
              case rel => exact ⟨j + 1, by omega, by go_num, HQ9.out, HBm.out⟩
              case measure => simp [intOf]; omega
        · have hje : j = d.its.length := by omega
          have hlej : (d.its.length : Int) ≤ j := by omega
          have hqe : QCls wr Q d.its.length (encL d) := by rw [hje] at hq; exact hq
          obtain ⟨v, hv, hrows⟩ := hqe
          obtain ⟨va, vc, rfl⟩ := rows_shape hrows
          have q0 : wr.cell? ⟨Q, 0, none⟩ = some (.int .i64 d.its.length) := by rw [cell_of_row wr Q 0 _ _ (0, 0) hv]; rfl
          have q1 : wr.cell? ⟨Q, 1, none⟩ = some (.slice va (encL d).length vc) := by rw [cell_of_row wr Q 1 _ _ (0, 0) hv]; rfl
          have hmay := satMay_ok d.its.length (Q + 1) h1024 _ (encL d) (by rw [HES.out]; exact HSM.out) (fun c hc => by have := encL_lens HF.out c hc; omega) (encL_lits HM.out) wr hrows
          have HMY := Lib.hid hmay
          have HV := Lib.hid hv
          have HRS := Lib.hid hrows
          clear hq hb hb1 hrd hkr hje hmay hv hrows
          go_wp2_with fail
          refine HMY.out.mono ?_
          rintro e wm ⟨rfl, hbm⟩
          have hvm := (hbm.block Q (Array.getElem?_eq_some_iff.1 HV.out).1).trans HV.out
          have p0 : wm.cell? ⟨Q, 0, none⟩ = some (.int .i64 d.its.length) := by rw [cell_of_row wm Q 0 _ _ (0, 0) hvm]; rfl
          have p1 : wm.cell? ⟨Q, 1, none⟩ = some (.slice va (encL d).length vc) := by rw [cell_of_row wm Q 1 _ _ (0, 0) hvm]; rfl
          have HBF := Lib.hid (HBj.out.trans (hbm.mono HBj.out.size))
          have HRm := Lib.hid ((HBF.out.block R (by have := HQR.out; have := HQ.out; omega)).trans HR3.out)
          have HRSm := Lib.hid (HRS.out.below17 hbm)
          clear hbm hvm q0 q1 HMY
          go_wp2_with (refine wpList_store_row rfl 34 _ _ rfl R #[.int .i64 d.its.length, .slice va (encL d).length vc] rfl rfl 34 _ HRm.out (by kernel_rfl) rfl (by simp [Value.oneCell']) ?_)
          refine bodyPost_ret (enc_results _ _ R #[.int .i64 d.its.length, .slice va (encL d).length vc] rfl _ rfl rfl (setRow_heap wm R _ _ _ _ HRm.out)) rfl ?_
          exact .inr (.inr ⟨HM.out, HSM.out, _, Q + 1, rfl, by have := HQR.out; have := HRG.out; omega, HRSm.out.setRow (by have := HQR.out; omega), below_setRow (HB0.out.trans ((HB3.out.trans (HBF.out.mono HB3.out.size)).mono HB0.out.size)) HRG.out⟩)
end Go.Proofs.Ytgfgajekegfdgaa
