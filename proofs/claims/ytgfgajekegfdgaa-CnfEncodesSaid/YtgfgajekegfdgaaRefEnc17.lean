/-
  Layer 17: the contract of the answer's Encode. Own work.
-/
import Derived.Test.YtgfgajekegfdgaaRefRt17
import Derived.Test.YtgfgajekegfdgaaEnc17
import Derived.Test.YtgfgajekegfdgaaLight17
namespace Go.Proofs.Ytgfgajekegfdgaa
set_option linter.unusedVariables false
set_option linter.unusedSimpArgs false
open Go.RowKit

/-- block Q is a question of n variables with these clauses, which lie in blocks from lo on -/
def QClsL (w : World) (Q lo : Nat) (n : Int) (cs : List (List Int)) : Prop :=
  ∃ v, w.heap[Q]? = some (Obj.cells #[.int .i64 n, v] 34 (0, 0)) ∧ RowsAt w lo v cs
theorem own_not {w : World} {Q lo n : Nat} {u v : Value} {rows : List Value} {m : Int} (hv : w.heap[Q]? = some (Obj.cells #[.int .i64 m, u] 34 (0, 0))) (h : w.ownsRow lo 39 1 v n rows) : some Q ≠ v.ownBlock := by
  intro e
  rcases h.2 with ⟨rfl, _⟩ | ⟨g, cap, cur2, rfl, _, hg2, _⟩
  · simp [Value.ownBlock] at e
  · simp [Value.ownBlock] at e
    subst e
    rw [hv] at hg2
    simp at hg2
theorem rows_addL {w w1 : World} {Q lo : Nat} {m : Int} {v v' r : Value} {cs : List (List Int)} {c : List Int} {rows : List Value} (hv : w.heap[Q]? = some (Obj.cells #[.int .i64 m, v] 34 (0, 0)))
    (hown : w.ownsRow lo 39 1 v cs.length rows) (hrows : ∀ (j : Nat) c, cs[j]? = some c → ∃ r, rows[j]? = some r ∧ RowAt w lo r c) (hr : RowAt w lo r c)
    (ho : w1.ownsRow lo 39 1 v' (cs.length + 1) (rows ++ [r])) (hg : w.grownBy w1 v.ownBlock) : QClsL (w1.setCell ⟨Q, 1, none⟩ v') Q lo m (cs ++ [c]) := by
  have hBlt : Q < w.heap.size := (Array.getElem?_eq_some_iff.1 hv).1
  have hBown := own_not hv hown
  have hB1 : w1.heap[Q]? = some (Obj.cells #[.int .i64 m, v] 34 (0, 0)) := (hg.block Q hBlt hBown).trans hv
  have hB2 : (w1.setCell ⟨Q, 1, none⟩ v').heap[Q]? = some (Obj.cells #[.int .i64 m, v'] 34 (0, 0)) := by
    have := heap_setCell_same w1 Q 1 _ 34 v' hB1
    simpa using this
  have hsg : w1.grownBy (w1.setCell ⟨Q, 1, none⟩ v') (some Q) := ⟨rfl, rfl, rfl, by simp, fun k _ hk => heap_setCell_other w1 ⟨Q, 1, none⟩ k v' (fun e => hk (by simp [e]))⟩
  have hne' : v'.ownBlock = none ∨ v'.ownBlock ≠ some Q := .inr (fun e => own_not hB1 ho e.symm)
  have hkeep : ∀ (b : Nat) (cur : Array Value), w.heap[b]? = some (Obj.cells cur 3 (0, 0)) → (w1.setCell ⟨Q, 1, none⟩ v').heap[b]? = w.heap[b]? := by
    intro b cur hb
    have hblt : b < w.heap.size := (Array.getElem?_eq_some_iff.1 hb).1
    have hbB : b ≠ Q := fun e => by
      subst e
      rw [hv] at hb
      simp at hb
    have hbo : some b ≠ v.ownBlock := fun e => by
      rcases hown.2 with ⟨rfl, _⟩ | ⟨g, cap, cur2, rfl, _, hg2, _⟩
      · simp [Value.ownBlock] at e
      · simp [Value.ownBlock] at e
        subst e
        rw [hg2] at hb
        simp at hb
    rw [hsg.block b (Nat.lt_of_lt_of_le hblt hg.size) (by simpa using hbB), hg.block b hblt hbo]
  refine ⟨v', hB2, rows ++ [r], by simpa using ho.kept hsg hne', fun j d hj => ?_⟩
  have hlen : rows.length = cs.length := by have := hown.1; omega
  by_cases hlt : j < cs.length
  · rw [List.getElem?_append_left hlt] at hj
    obtain ⟨r0, h1, h2⟩ := hrows j d hj
    exact ⟨r0, by rw [List.getElem?_append_left (by omega)]; exact h1, h2.keep hkeep⟩
  · rw [List.getElem?_append_right (by omega)] at hj
    have hj0 : j - cs.length = 0 := by
      have := (List.getElem?_eq_some_iff.1 hj).1
      simp at this; omega
    rw [hj0] at hj
    simp at hj
    subst hj
    exact ⟨r, by rw [List.getElem?_append_right (by omega), hlen, hj0]; rfl, hr.keep hkeep⟩
theorem QClsL.below {w w' : World} {Q lo : Nat} {n : Int} {cs : List (List Int)} (h : QClsL w Q lo n cs) (hb : Below w.heap.size w w') : QClsL w' Q lo n cs := by
  obtain ⟨v, h1, h2⟩ := h
  exact ⟨v, (hb.block Q (Array.getElem?_eq_some_iff.1 h1).1).trans h1, h2.below17 hb⟩
theorem addQL {w w' : World} {Q lo : Nat} {m : Int} {cs : List (List Int)} {r : Value} {c : List Int} (h : QClsL w Q lo m cs) (hb : Below w.heap.size w w') (hr : RowAt w' lo r c) (hlo : lo ≤ Q) :
    ∃ v rows, w.cell? ⟨Q, 1, none⟩ = some v ∧ w'.ownsRow lo 39 1 v cs.length rows ∧ lo ≤ w'.heap.size ∧ ∀ v1 w2, w2.ownsRow lo 39 1 v1 (cs.length + 1) (rows ++ [r]) → w'.grownBy w2 v.ownBlock → Below lo w' w2 →
      (w2.cell? ⟨Q, 1, none⟩ = some v ∧ w2.frozen? ⟨Q, 1, none⟩ = false) ∧ QClsL (w2.setCell ⟨Q, 1, none⟩ v1) Q lo m (cs ++ [c]) ∧ Below lo w' (w2.setCell ⟨Q, 1, none⟩ v1) ∧ ∃ g cap, v1 = .slice (some ⟨g, 0, none⟩) (cs.length + 1) cap := by
  obtain ⟨v, hv, -⟩ := id h
  obtain ⟨v', hv', rows, hown, hrows⟩ := h.below hb
  have hQ : Q < w.heap.size := (Array.getElem?_eq_some_iff.1 hv).1
  have hvv : v' = v := by
    have := (hb.block Q hQ).trans hv
    rw [hv'] at this
    simpa using this
  subst hvv
  refine ⟨v', rows, by rw [cell_of_row w Q 1 _ _ (0, 0) hv]; rfl, hown, by have := hb.size; omega, fun v1 w2 ho hg hbw => ?_⟩
  have hB1 : w2.heap[Q]? = some (Obj.cells #[.int .i64 m, v'] 34 (0, 0)) := (hg.block Q (Array.getElem?_eq_some_iff.1 hv').1 (own_not hv' hown)).trans hv'
  refine ⟨⟨by rw [cell_of_row w2 Q 1 _ _ (0, 0) hB1]; rfl, frozen_of_row w2 Q 1 _ _ hB1⟩, rows_addL hv' hown hrows hr ho hg, hbw.setCell (p := ⟨Q, 1, none⟩) hlo _, ?_⟩
  rcases ho.2 with ⟨_, h0⟩ | ⟨g, cap, cur, hv, _⟩
  · omega
  · exact ⟨g, cap, hv⟩
theorem QClsL.first (w : World) (n x : Int) : QClsL (((w.alloc (.cells #[.int .i64 x] 3)).alloc (.cells #[.slice (some ⟨w.heap.size, 0, none⟩) 1 1] 39)).alloc (.cells #[.int .i64 n, .slice (some ⟨w.heap.size + 1, 0, none⟩) 1 1] 34)) (w.heap.size + 1 + 1) w.heap.size n [[x]] := by
  have hra := RowAt.made w w.heap.size [x] (Nat.le_refl _) (by simp)
  have hra : RowAt (w.alloc (.cells #[.int .i64 x] 3)) w.heap.size (.slice (some ⟨w.heap.size, 0, none⟩) 1 1) [x] := hra
  have hsz : (w.alloc (.cells #[.int .i64 x] 3)).heap.size = w.heap.size + 1 := by simp
  have hbb : Below (w.alloc (.cells #[.int .i64 x] 3)).heap.size (w.alloc (.cells #[.int .i64 x] 3)) ((w.alloc (.cells #[.int .i64 x] 3)).alloc (.cells #[.slice (some ⟨w.heap.size, 0, none⟩) 1 1] 39)) := (Below.refl _ _).alloc (Nat.le_refl _) _
  have hlit := World.ownsRow_lit (e := 39) (size := 1) (base := w.heap.size) (w.alloc (.cells #[.int .i64 x] 3)) #[.slice (some ⟨w.heap.size, 0, none⟩) 1 1] 1 (by omega) (by unfold maxLen; omega) rfl
  rw [hsz] at hlit hbb
  generalize w.alloc (.cells #[.int .i64 x] 3) = wa at hra hsz hbb hlit ⊢
  have hrows : RowsAt (wa.alloc (.cells #[.slice (some ⟨w.heap.size, 0, none⟩) 1 1] 39)) w.heap.size (.slice (some ⟨w.heap.size + 1, 0, none⟩) 1 1) [[x]] := by
    refine ⟨[.slice (some ⟨w.heap.size, 0, none⟩) 1 1], hlit, fun j c hj => ?_⟩
    match j with
    | 0 =>
      simp at hj
      subst hj
      exact ⟨_, rfl, hra.keep fun b cur hb => hbb.block b (by have := (Array.getElem?_eq_some_iff.1 hb).1; omega)⟩
    | j + 1 => simp at hj
  have hs2 : (wa.alloc (.cells #[.slice (some ⟨w.heap.size, 0, none⟩) 1 1] 39)).heap.size = w.heap.size + 1 + 1 := by simp [hsz]
  generalize wa.alloc (.cells #[.slice (some ⟨w.heap.size, 0, none⟩) 1 1] 39) = wb at hrows hs2 ⊢
  have hnew := heap_alloc_new wb (.cells #[.int .i64 n, .slice (some ⟨w.heap.size + 1, 0, none⟩) 1 1] 34)
  rw [hs2] at hnew
  exact ⟨_, hnew, hrows.below17 ((Below.refl _ _).alloc (Nat.le_refl _) _)⟩
theorem refenc_results (tmps : Array Value) (w : World) (R : Nat) (cs : Array Value) (hs : cs.size = 2) (e : Value) (h2 : tmps.getD 2 undef = .pointer (some ⟨R, 0, none⟩)) (h3 : tmps.getD 3 undef = e)
    (hR : w.heap[R]? = some (.cells cs 34 (0, 0))) :
    (results Try.f14 tmps).run Try.prog w = .ok (.tuple #[.agg cs, e]) w := by
  have h2' : tmps[2]?.getD undef = .pointer (some ⟨R, 0, none⟩) := by simpa using h2
  have h3' : tmps[3]?.getD undef = e := by simpa using h3
  have l1 := run_loadVar_row w R 34 34 cs (0, 0) _ hR Try.underlying34 rfl (by rw [hs]; kernel_rfl)
  simp [results, Try.results14, h2', h3', asAddr, l1]
def REncP (d : Dl) (w : World) (e : Ending) (w' : World) : Prop :=
  ∃ v lo, e = .returned (.tuple #[.agg #[.int .i64 d.its.length, v], .bool true]) ∧ w.heap.size ≤ lo ∧ RowsAt w' lo v (encL d) ∧ Below w.heap.size w w'
set_option maxRecDepth 100000 in
set_option maxHeartbeats 16000000 in
theorem refEncode_any (d : Dl) (vi vw : Value) (hlight : lightD d) (hm : mayD d = 0) (w : World) (hr : RdD w vi vw d) :
    Calls Try.prog 14 #[dealV vi vw d.root] w (REncP d w) := by
  obtain ⟨ai, ci, aw, cw, rfl, rfl⟩ := hr.shape
  obtain ⟨hl1, hl2, hf⟩ := hlight
  obtain ⟨h1024, ⟨hroot0, hroot1⟩, hlen, hall⟩ := mayD_zero hm
  have hb0 : Below w.heap.size w ((w.alloc (.cells #[.slice ai d.its.length ci, .slice aw d.ws.length cw, .int .i64 d.root] 25)).alloc (.cells #[.int .i64 0, .slice none 0 0] 34)) := ((Below.refl w.heap.size w).alloc (Nat.le_refl _) _).alloc (by simp) _
  have hk : DlIn ((w.alloc (.cells #[.slice ai d.its.length ci, .slice aw d.ws.length cw, .int .i64 d.root] 25)).alloc (.cells #[.int .i64 0, .slice none 0 0] 34)) w.heap.size (.slice ai d.its.length ci) (.slice aw d.ws.length cw) d.root := (DlIn.new w _ _ _).below ((Below.refl _ _).alloc (Nat.le_refl _) _) (Nat.le_refl _)
  have hR : ((w.alloc (.cells #[.slice ai d.its.length ci, .slice aw d.ws.length cw, .int .i64 d.root] 25)).alloc (.cells #[.int .i64 0, .slice none 0 0] 34)).heap[w.heap.size + 1]? = some (.cells #[.int .i64 0, .slice none 0 0] 34 (0, 0)) := by
    have := heap_alloc_new (w.alloc (.cells #[.slice ai d.its.length ci, .slice aw d.ws.length cw, .int .i64 d.root] 25)) (.cells #[.int .i64 0, .slice none 0 0] 34)
    simpa using this
  have HR := Lib.hid (hr.below hb0 (Nat.le_refl _))
  have HB0 := Lib.hid hb0
  have HF := Lib.hid hf
  have HM := Lib.hid hm
  have HALL := Lib.hid hall
  have HLEN := Lib.hid hlen
  have HEL := Lib.hid (show (encL d).length ≤ 2001 by rw [encL_size]; exact sizeD_le hf hl1 hl2)
  clear hr hb0 hf hm hall hlen
  unfold dealV
  go_enter Try.func14, Try.ntmps14
  go_upto_region 1 with fail
  generalize (w.alloc (.cells #[.slice ai d.its.length ci, .slice aw d.ws.length cw, .int .i64 d.root] 25)).alloc (.cells #[.int .i64 0, .slice none 0 0] 34) = w1 at hk hR HR HB0 ⊢
  obtain ⟨R, hRe⟩ : ∃ R, R = w.heap.size + 1 := ⟨_, rfl⟩
  rw [← hRe] at hR
  simp only [← hRe]
  have HRG := Lib.hid (show w.heap.size ≤ R from by omega)
  clear hRe
  generalize w.heap.size = D at hk ⊢
  have HRR := Lib.hid hR
  have HRL := Lib.hid (show R < w1.heap.size from (Array.getElem?_eq_some_iff.1 hR).1)
  have HK := Lib.hid hk
  obtain ⟨x0, x1, x2⟩ := hk
  clear hR
  have hq0 := QClsL.first w1 d.its.length (d.root + 1)
  have hbq : Below w1.heap.size w1 (((w1.alloc (.cells #[.int .i64 (d.root + 1)] 3)).alloc (.cells #[.slice (some ⟨w1.heap.size, 0, none⟩) 1 1] 39)).alloc (.cells #[.int .i64 d.its.length, .slice (some ⟨w1.heap.size + 1, 0, none⟩) 1 1] 34)) := (((Below.refl _ _).alloc (Nat.le_refl _) _).alloc (by simp) _).alloc (by simp; omega) _
  go_upto_region 2 with fail
  generalize ((w1.alloc (.cells #[.int .i64 (d.root + 1)] 3)).alloc (.cells #[.slice (some ⟨w1.heap.size, 0, none⟩) 1 1] 39)).alloc (.cells #[.int .i64 d.its.length, .slice (some ⟨w1.heap.size + 1, 0, none⟩) 1 1] 34) = w4 at hq0 hbq ⊢
  obtain ⟨Q, hQ⟩ : ∃ Q, Q = w1.heap.size + 1 + 1 := ⟨_, rfl⟩
  rw [← hQ] at hq0 ⊢
  have HQG := Lib.hid (show w1.heap.size ≤ Q by omega)
  have HBQ := Lib.hid hbq
  have HQ0 := Lib.hid hq0
  clear hq0 hbq hQ x0 x1 x2
  have HLOW := Lib.hid (fun (wr : World) (hb : Below w1.heap.size w1 wr) => (show RdD wr (.slice ai d.its.length ci) (.slice aw d.ws.length cw) d ∧ DlIn wr D (.slice ai d.its.length ci) (.slice aw d.ws.length cw) d.root from ⟨HR.out.below hb (Nat.le_refl _), HK.out.below hb (Nat.le_refl _)⟩))
  obtain ⟨-, x0, x1, x2⟩ := HLOW.out w4 HBQ.out
  have hN : (d.its.length : Int) ≤ 40 := by omega
  go_wp2_with fail
  clear x0 x1 x2
  go_loopw [27] (fun i wr => ∃ k : Nat, k ≤ d.its.length ∧ i = .int .i64 k ∧ QClsL wr Q w1.heap.size d.its.length ([d.root + 1] :: clsTo d.ws k) ∧ Below w1.heap.size w1 wr) (fun i _ => d.its.length - (intOf i).toNat)
  case atStart => exact ⟨0, by omega, rfl, HQ0.out, HBQ.out⟩
  case round =>
    obtain ⟨k, hkl, rfl, hq, hb⟩ := hrel
    obtain ⟨hrd, x0, x1, x2⟩ := HLOW.out _ hb
    have HB := Lib.hid hb
    have HQC := Lib.hid hq
    by_cases hlt : k < d.its.length
    · obtain ⟨x, hx⟩ : ∃ x, d.ws[k]? = some x := ⟨_, List.getElem?_eq_getElem (by rw [HLEN.out]; omega)⟩
      obtain ⟨b, r, hbw, hc1, hrx⟩ := RdOf.elem HR.out.w hx
      subst hbw
      obtain ⟨xa, xc, rfl⟩ := RdOf.shape hrx
      have hc := (hb.cell (World.block_lt_of_cell? w1 _ hc1)).trans hc1
      have hxl : x.length ≤ 10 := (HF.out x (List.mem_of_getElem? hx)).1
      have hxlI : (x.length : Int) ≤ 10 := by omega
      have hwk := List.all_eq_true.1 HALL.out x (List.mem_of_getElem? hx)
      have HWK := Lib.hid hwk
      have HX := Lib.hid hx
      have hkI : (k : Int) ≤ 40 := by omega
      have hk0 : (0 : Int) ≤ k := by omega
      have hkw : (k : Int) < d.ws.length := by rw [HLEN.out]; omega
      have HRX := Lib.hid hrx
      have HKL := Lib.hid (clsTo_at hx)
      clear hrd hq hb hrx hx hwk hc1
      go_wp2_with fail
      clear hc x0 x1 x2
      go_loopw [36] (fun i wq => ∃ q : Nat, q ≤ x.length ∧ i = .int .i64 q ∧ QClsL wq Q w1.heap.size d.its.length ([d.root + 1] :: (clsTo d.ws k ++ clsI k (x.take q))) ∧ Below w1.heap.size w1 wq) (fun i _ => x.length - (intOf i).toNat)
      case atStart => exact ⟨0, by omega, rfl, by simpa [clsI] using HQC.out, HB.out⟩
      case round =>
        obtain ⟨q, hql, rfl, hq, hb⟩ := hrel
        have HBq := Lib.hid hb
        have HQq := Lib.hid hq
        by_cases hlt2 : q < x.length
        · obtain ⟨y, hy⟩ : ∃ y, x[q]? = some y := ⟨_, List.getElem?_eq_getElem hlt2⟩
          obtain ⟨b2, r2, hbx, hc2, hry⟩ := RdOf.elem HRX.out hy
          subst hbx
          obtain ⟨ya, yc, rfl⟩ := Reads.shape hry
          have hcq := (hb.cell (World.block_lt_of_cell? w1 _ hc2)).trans hc2
          have hyl : y.length ≤ 40 := (HF.out x (List.mem_of_getElem? HX.out)).2 y (List.mem_of_getElem? hy)
          have hylI : (y.length : Int) ≤ 40 := by omega
          have HWY := Lib.hid (List.all_eq_true.1 HWK.out y (List.mem_of_getElem? hy))
          have HSQ := Lib.hid (clsI_snoc (i := k) hy)
          have HRY := Lib.hid hry
          have HQL := Lib.hid (show w1.heap.size ≤ wr.heap.size from hb.size)
          have hlit := World.ownsRow_lit (e := 3) (size := 1) (base := wr.heap.size) wr #[.int .i64 (-((k : Int) + 1))] 1 (Nat.le_refl _) (by unfold maxLen; omega) rfl
          have hba : Below wr.heap.size wr (wr.alloc (.cells #[.int .i64 (-((k : Int) + 1))] 3)) := (Below.refl _ _).alloc (Nat.le_refl _) _
          have HLIT := Lib.hid hlit
          have HBA := Lib.hid hba
          clear hq hb hc2 hry hy hlit hba
          go_upto_region 9 with fail
          clear hcq
          obtain ⟨L, hL⟩ : ∃ L, L = wr.heap.size := ⟨_, rfl⟩
          rw [← hL] at HLIT HBA HQL ⊢
          have HL := Lib.hid hL
          clear hL
          generalize wr.alloc (.cells #[.int .i64 (-((k : Int) + 1))] 3) = w6 at HLIT HBA ⊢
          go_wp2_with fail
          go_loopw [8, 46] (fun v i wq => ∃ p : Nat, p ≤ y.length ∧ i = .int .i64 p ∧ wq.ownsRow L 3 1 v (p + 1) ((clsW k (y.take p)).map iV) ∧ Below L wr wq) (fun _ i _ => y.length - (intOf i).toNat)
          case atStart => exact ⟨0, by omega, rfl, by simpa [clsW, iV] using HLIT.out, HBA.out⟩
          case round =>
            obtain ⟨p, hpl, rfl, hown, hq⟩ := hrel
            have HQB := Lib.hid hq
            have hb1 := HBq.out.trans (hq.mono (by rw [HL.out]; exact HBq.out.size))
            by_cases hlt3 : p < y.length
            · obtain ⟨n, hn⟩ : ∃ n, y[p]? = some n := ⟨_, List.getElem?_eq_getElem hlt3⟩
              obtain ⟨b3, hby, hc3⟩ := Reads.elem HRY.out hn
              subst hby
              unfold iV at hc3
              have hcn := (hb1.cell (World.block_lt_of_cell? w1 _ hc3)).trans hc3
              obtain ⟨hn0, hn1⟩ := inB_iff.1 (List.all_eq_true.1 HWY.out n (List.mem_of_getElem? hn))
              have HSN := Lib.hid (show (clsW k (y.take (p + 1))).map iV = (clsW k (y.take p)).map iV ++ [.int .i64 (n + 1)] from by rw [clsW_snoc hn, List.map_append]; rfl)
              have hwz : L ≤ wr.heap.size := by have := hq.size; have := HL.out; omega
              have HWZ := Lib.hid hwz
              clear hb1 hc3 hn hq hwz
              go_wp2_with (at_builtin
                           refine app1 rfl _ _ 39 3 rfl (.int .i64 0) 8 L (p + 1) Try.underlying39 int_info rfl _ _ rfl hown rfl rfl (by omega) (by omega) HWZ.out ?_)
              intro v' w' ho' hg' hb'
              have HO := Lib.hid ho'
              have HBp := Lib.hid (HQB.out.trans hb')
              clear ho' hg' hb' hown hcn
              go_wp2
              go_roundw
              case rel => exact ⟨p + 1, by omega, by go_num, by rw [HSN.out]; exact HO.out, HBp.out⟩
              case measure => simp [intOf]; omega
            · have hpe : (y.length : Int) ≤ p := by omega
              have hpy : y.take p = y := List.take_of_length_le (by omega)
              rw [hpy] at hown
              have hln : (clsW k y).length = p + 1 := by unfold clsW; simp; omega
              rw [← hln] at hown
              have hrow := RowAt.of_own (lo := w1.heap.size) hown HQL.out (by rw [hln]; omega)
              obtain ⟨va, vc, hve⟩ : ∃ a c, _ = Value.slice a (clsW k y).length c := by
                obtain ⟨b, cap, cur, h, _⟩ := hrow
                exact ⟨_, _, h⟩
              subst hve
              have hbnd : ([d.root + 1] :: (clsTo d.ws k ++ clsI k (x.take q))).length ≤ 1000 := by
                have h1 := cls_len d.ws k
                have h2 := lenTo_le HF.out k
                have h3 : (clsI k (x.take q)).length ≤ q := by unfold clsI; rw [List.length_map]; exact List.length_take_le _ _
                simp only [List.length_cons, List.length_append]
                omega
              obtain ⟨vq, rows, hcv, hownq, hlo, hstep⟩ := addQL (HQq.out.below (by rw [← HL.out]; exact hq)) (Below.refl _ _) hrow HQG.out
              have HST := Lib.hid hstep
              have HQ8 := Lib.hid hq
              have HBW := Lib.hid hb1
              clear hown hrow hb1 hq hpy hln hstep
              generalize hcsl : ([d.root + 1] :: (clsTo d.ws k ++ clsI k (x.take q))).length = CL at hbnd hownq HST
              have HCSL := Lib.hid hcsl
              clear hcsl
              go_wp2_with (at_builtin
                           refine app1 rfl _ _ 32 39 rfl (.slice none 0 0) 24 w1.heap.size CL Try.underlying32 row_info rfl vq _ rfl hownq rfl rfl (by omega) (by omega) hlo ?_)
              intro v1 w8 ho1 hg1 hb8
              obtain ⟨⟨d1, f1⟩, hq8, hb9, gq, capq, rfl⟩ := HST.out v1 w8 ho1 hg1 hb8
              have HQ9 := Lib.hid (show QClsL (w8.setCell ⟨Q, 1, none⟩ _) Q w1.heap.size d.its.length ([d.root + 1] :: (clsTo d.ws k ++ clsI k (x.take (q + 1)))) from by rw [HSQ.out]; simpa [List.append_assoc] using hq8)
              have HB9 := Lib.hid (HBW.out.trans hb9)
              clear ho1 hg1 hb8 hownq hcv hq8 hb9 hlo
              go_wp2
              go_roundw
              case rel => exact ⟨q + 1, by omega, by go_num, HQ9.out, HB9.out⟩
              case measure => simp [intOf]; omega
        · have hqe : (x.length : Int) ≤ q := by omega
          have HQ9 := Lib.hid (show QClsL wr Q w1.heap.size d.its.length ([d.root + 1] :: clsTo d.ws (k + 1)) from by rw [HKL.out]; rw [List.take_of_length_le (by omega)] at hq; exact hq)
          clear hq hb
          go_wp2
          go_roundw
          case rel => exact ⟨k + 1, by omega, by go_num, HQ9.out, HBq.out⟩
          case measure => simp [intOf]; omega
    · have hke : k = d.its.length := by omega
      have hle : (d.its.length : Int) ≤ k := by omega
      have hkw : d.ws.length = k := by rw [HLEN.out]; omega
      have HQW := Lib.hid (show QClsL wr Q w1.heap.size d.its.length ([d.root + 1] :: (clsTo d.ws d.ws.length ++ alTo d.its 0)) from by rw [hkw]; simpa [alTo] using hq)
      clear hq hb hrd hke hkw
      go_wp2_with fail
      clear x0 x1 x2
      go_loopw [67] (fun i wq => ∃ j : Nat, j ≤ d.its.length ∧ i = .int .i64 j ∧ QClsL wq Q w1.heap.size d.its.length ([d.root + 1] :: (clsTo d.ws d.ws.length ++ alTo d.its j)) ∧ Below w1.heap.size w1 wq) (fun i _ => d.its.length - (intOf i).toNat)
      case atStart => exact ⟨0, by omega, rfl, HQW.out, HB.out⟩
      case round =>
        obtain ⟨j, hjl, rfl, hq, hb⟩ := hrel
        obtain ⟨hrd, x0, x1, x2⟩ := HLOW.out _ hb
        have HBj := Lib.hid hb
        have HQj := Lib.hid hq
        by_cases hltj : j < d.its.length
        · obtain ⟨x, hx⟩ : ∃ x, d.its[j]? = some x := ⟨_, List.getElem?_eq_getElem hltj⟩
          obtain ⟨bi, hbi, hit⟩ := RdI.elem hrd.i hx
          subst hbi
          have HX := Lib.hid hx
          have HAT := Lib.hid (alTo_snoc d.its j)
          have hjI : (j : Int) < d.its.length := by omega
          have hj0 : (0 : Int) ≤ j := by omega
          clear hit hrd hq hb hx
          go_wp2_with fail
          clear x0 x1 x2
          go_loopw [12] (fun kv wq => ∃ m : Nat, j + 1 ≤ m ∧ m ≤ d.its.length ∧ kv = .int .i64 m ∧ QClsL wq Q w1.heap.size d.its.length ([d.root + 1] :: (clsTo d.ws d.ws.length ++ (alTo d.its j ++ alI d.its j m))) ∧ Below w1.heap.size w1 wq) (fun kv _ => d.its.length - (intOf kv).toNat)
          case atStart => exact ⟨j + 1, by omega, by omega, by go_num, by rw [alI_start _ _ _ (Nat.le_refl _), List.append_nil]; exact HQj.out, HBj.out⟩
          case round =>
            obtain ⟨m, hmj, hml, rfl, hq, hb⟩ := hrel
            obtain ⟨hrd, x0, x1, x2⟩ := HLOW.out _ hb
            have HBm := Lib.hid hb
            have HQm := Lib.hid hq
            by_cases hltm : m < d.its.length
            · obtain ⟨y, hy⟩ : ∃ y, d.its[m]? = some y := ⟨_, List.getElem?_eq_getElem hltm⟩
              obtain ⟨b1, e1, hjt⟩ := RdI.elem hrd.i hy
              cases e1
              obtain ⟨j0, j1, j2, j3, _⟩ := hjt
              obtain ⟨b2, e2, hit⟩ := RdI.elem hrd.i HX.out
              cases e2
              obtain ⟨i0, i1, i2, i3, _⟩ := hit
              have HSA := Lib.hid ((sameAt_is HX.out hy).trans (sameK_comm _ _))
              have HAI := Lib.hid (alI_snoc d.its j m)
              have hEQ := fun w => eq_key x.k y.k w
              have HDJ := Lib.hid (show decide (j < m) = true from decide_eq_true (by omega))
              generalize sameK x.k y.k = s at hEQ HSA
              have hmI : (m : Int) < d.its.length := by omega
              have hm0 : (0 : Int) ≤ m := by omega
              clear hrd hq hb hy
              go_upto_region 23 with fail
              go_quiet (fail)
              rename_i nq
              have HQD := Lib.hid (show QClsL (wr.drewN nq) Q w1.heap.size d.its.length ([d.root + 1] :: (clsTo d.ws d.ws.length ++ (alTo d.its j ++ alI d.its j m))) from HQm.out)
              have HBD := Lib.hid (below_drewN HBm.out nq)
              generalize wr.drewN nq = wd at HQD HBD ⊢
              clear x0 x1 x2 i0 i1 i2 i3 j0 j1 j2 j3 hEQ
              cases s
              · go_wp2
                go_roundw
                case rel => exact ⟨m + 1, by omega, by omega, by go_num, by rw [HAI.out, HDJ.out, HSA.out]; simpa using HQD.out, HBD.out⟩
                case measure => simp [intOf]; omega
              · have hrow2 : RowAt (wd.alloc (.cells #[.int .i64 (-((j : Int) + 1)), .int .i64 (-((m : Int) + 1))] 3)) w1.heap.size (.slice (some ⟨wd.heap.size, 0, none⟩) 2 2) (pairC j m) := RowAt.made wd w1.heap.size (pairC j m) HBD.out.size (by simp [pairC])
                have hba : Below wd.heap.size wd (wd.alloc (.cells #[.int .i64 (-((j : Int) + 1)), .int .i64 (-((m : Int) + 1))] 3)) := (Below.refl _ _).alloc (Nat.le_refl _) _
                have hszd : (wd.alloc (.cells #[.int .i64 (-((j : Int) + 1)), .int .i64 (-((m : Int) + 1))] 3)).heap.size = wd.heap.size + 1 := by simp
                have hbnd : ([d.root + 1] :: (clsTo d.ws d.ws.length ++ (alTo d.its j ++ alI d.its j m))).length ≤ 5000 := by
                  have h1 := cls_len d.ws d.ws.length
                  have h2 := lenTo_le HF.out d.ws.length
                  have h3 := alTo_len_le d.its j
                  have h4 := alI_len_le d.its j m
                  have h5 : j * d.its.length ≤ 40 * 40 := Nat.mul_le_mul (by omega) (by omega)
                  simp only [List.length_cons, List.length_append]
                  omega
                obtain ⟨vq, rows, hcv, hownq, hlo, hstep⟩ := addQL HQD.out hba hrow2 HQG.out
                have HST := Lib.hid hstep
                have HBW := Lib.hid (HBD.out.trans (hba.mono HBD.out.size))
                clear hrow2 hba hstep
                generalize hcsl : ([d.root + 1] :: (clsTo d.ws d.ws.length ++ (alTo d.its j ++ alI d.its j m))).length = CL at hbnd hownq HST
                have HCSL := Lib.hid hcsl
                clear hcsl
                go_wp2_with (at_builtin
                             refine app1 rfl _ _ 32 39 rfl (.slice none 0 0) 24 w1.heap.size CL Try.underlying32 row_info rfl vq _ rfl hownq (by rw [hszd]; rfl) rfl (by omega) (by omega) hlo ?_)
                intro v1 w8 ho1 hg1 hb8
                obtain ⟨⟨d1, f1⟩, hq8, hb9, gq, capq, rfl⟩ := HST.out v1 w8 ho1 hg1 hb8
                have HQ9 := Lib.hid (show QClsL (w8.setCell ⟨Q, 1, none⟩ _) Q w1.heap.size d.its.length ([d.root + 1] :: (clsTo d.ws d.ws.length ++ (alTo d.its j ++ alI d.its j (m + 1)))) from by rw [HAI.out, HDJ.out, HSA.out]; simpa [List.append_assoc] using hq8)
                have HB9 := Lib.hid (HBW.out.trans hb9)
                clear ho1 hg1 hb8 hownq hcv hq8 hb9 hlo
                go_wp2
                go_roundw
                case rel => exact ⟨m + 1, by omega, by omega, by go_num, HQ9.out, HB9.out⟩
                case measure => simp [intOf]; omega
            · have hle : (d.its.length : Int) ≤ m := by omega
              have HQ9 := Lib.hid (show QClsL wr Q w1.heap.size d.its.length ([d.root + 1] :: (clsTo d.ws d.ws.length ++ alTo d.its (j + 1))) from by rw [HAT.out]; rw [show m = d.its.length by omega] at hq; exact hq)
              clear hq hb hrd
              go_wp2
              go_roundw
              case rel => exact ⟨j + 1, by omega, by go_num, HQ9.out, HBm.out⟩
              case measure => simp [intOf]; omega
        · have hje : j = d.its.length := by omega
          have hlej : (d.its.length : Int) ≤ j := by omega
          have hqe : QClsL wr Q w1.heap.size d.its.length (encL d) := by rw [hje] at hq; exact hq
          obtain ⟨v, hv, hrows⟩ := hqe
          obtain ⟨g, cap, rfl, a1, a2, a3, a4⟩ := rows_at hrows (by unfold encL; simp)
          have q0 : wr.cell? ⟨Q, 0, none⟩ = some (.int .i64 d.its.length) := by rw [cell_of_row wr Q 0 _ _ (0, 0) hv]; rfl
          have q1 : wr.cell? ⟨Q, 1, none⟩ = some (.slice (some ⟨g, 0, none⟩) (encL d).length cap) := by rw [cell_of_row wr Q 1 _ _ (0, 0) hv]; rfl
          have HV := Lib.hid hv
          have HRS := Lib.hid hrows
          have HA := Lib.hid a4
          have helI : ((encL d).length : Int) ≤ 2001 := by have := HEL.out; omega
          clear hq hb hrd hje hv hrows a4 x0 x1 x2
          go_wp2_with fail
          go_loop [108] (fun i => ∃ u : Nat, u ≤ (encL d).length ∧ i = .int .i64 u) (fun i => (encL d).length - (intOf i).toNat)
          case atStart => exact ⟨0, by omega, rfl⟩
          case round =>
            obtain ⟨u, hul, rfl⟩ := hrel
            by_cases hltu : u < (encL d).length
            · obtain ⟨c, hc⟩ : ∃ c, (encL d)[u]? = some c := ⟨_, List.getElem?_eq_getElem hltu⟩
              obtain ⟨b, bc, p1, _, p3, p4, _⟩ := HA.out u c hc
              have hcl := encL_lens HF.out c (List.mem_of_getElem? hc)
              have hclI : (c.length : Int) ≤ 41 := by omega
              clear hc
              go_wp2
              exact ⟨⟨u + 1, by omega, by go_num⟩, by simp [intOf]; omega⟩
            · have hule : ((encL d).length : Int) ≤ u := by omega
              have HRm := Lib.hid (show wr.drew.heap[R]? = _ from (HBj.out.block R HRL.out).trans HRR.out)
              have HNE := Lib.hid (show Q ≠ R by have := HRL.out; have := HQG.out; omega)
              have hdle : decide (((encL d).length : Int) ≤ 16384) = true := by simp; omega
              go_upto_region 32 with fail
              refine wp_region_held_drew (S := (fun w' => w'.cell? ⟨Q, 0, none⟩ = some (.int .i64 d.its.length) ∧ w'.cell? ⟨Q, 1, none⟩ = some (.slice (some ⟨g, 0, none⟩) (encL d).length cap))) (by kernel_rfl) (by (try dsimp only); exact ⟨q0, q1⟩) (fun hHeld => ?_)
              refine wpAnyH_take (i := 0) (v := ?_) (by (simp only [List.getElem?_toArray, List.getElem?_cons_succ, List.getElem?_cons_zero]; rfl)) (by kernel_rfl) (by kernel_rfl) (by kernel_rfl) (by intro _ _ _ h; exact h) (Or.inl ⟨by rfl, ?_⟩) (by assumption) ?_
              rotate_left
              · (intro w hSw; (try dsimp only at hSw); go_simp; try (with_reducible rfl))
              simp only [Act.put, List.setIfInBounds_toArray, List.set_cons_zero, List.set_cons_succ]
              refine wpAnyH_take (i := 1) (v := ?_) (by (simp only [List.getElem?_toArray, List.getElem?_cons_succ, List.getElem?_cons_zero]; rfl)) (by kernel_rfl) (by kernel_rfl) (by kernel_rfl) (by intro _ _ _ h; exact h) (Or.inl ⟨by rfl, ?_⟩) (by assumption) ?_
              rotate_left
              · (intro w hSw; (try dsimp only at hSw); go_simp; try (with_reducible rfl))
              simp only [Act.put, List.setIfInBounds_toArray, List.set_cons_zero, List.set_cons_succ]
              refine wpAnyH_take (i := 2) (v := ?_) (by (simp only [List.getElem?_toArray, List.getElem?_cons_succ, List.getElem?_cons_zero]; rfl)) (by kernel_rfl) (by kernel_rfl) (by kernel_rfl) (by intro _ _ _ h; exact h) (Or.inl ⟨by rfl, ?_⟩) (by assumption) ?_
              rotate_left
              · (intro w hSw; (try dsimp only at hSw); go_simp; try (with_reducible rfl))
              simp only [Act.put, List.setIfInBounds_toArray, List.set_cons_zero, List.set_cons_succ]
              refine wpAnyH_take (i := 3) (v := ?_) (by (simp only [List.getElem?_toArray, List.getElem?_cons_succ, List.getElem?_cons_zero]; rfl)) (by kernel_rfl) (by kernel_rfl) (by kernel_rfl) (by intro _ _ _ h; exact h) (Or.inl ⟨by rfl, ?_⟩) (by assumption) ?_
              rotate_left
              · (intro w hSw; (try dsimp only at hSw); go_simp; try (with_reducible rfl))
              simp only [Act.put, List.setIfInBounds_toArray, List.set_cons_zero, List.set_cons_succ]
              refine wpAnyH_take (i := 4) (v := ?_) (by (simp only [List.getElem?_toArray, List.getElem?_cons_succ, List.getElem?_cons_zero]; rfl)) (by kernel_rfl) (by kernel_rfl) (by kernel_rfl) (by intro _ _ _ h; exact h) (Or.inl ⟨by rfl, ?_⟩) (by assumption) ?_
              rotate_left
              · (intro w hSw; (try dsimp only at hSw); go_simp; try (with_reducible rfl))
              simp only [Act.put, List.setIfInBounds_toArray, List.set_cons_zero, List.set_cons_succ]
              refine wpAnyH_ready (rs := [5]) (by kernel_rfl) (by simp) ?_
              refine AllReadyH.cons (by (simp only [List.getElem?_toArray, List.getElem?_cons_succ, List.getElem?_cons_zero]; rfl)) (fun K hK => ?_) AllReadyH.nil
              rw [if_pos (by rfl)]
              refine wp_store_row 34 _ _ rfl R #[.int .i64 d.its.length, .slice (some ⟨g, 0, none⟩) (encL d).length cap] rfl rfl 34 _ HRm.out (by kernel_rfl) rfl (by simp [Value.oneCell']) ?_
              refine hK.out _ _ ⟨(cell_of_row _ Q 0 _ _ (0, 0) ((setRow_other wr.drew R Q _ HNE.out).trans HV.out)), (cell_of_row _ Q 1 _ _ (0, 0) ((setRow_other wr.drew R Q _ HNE.out).trans HV.out))⟩ (fun hHeld => ?_)
              clear hK K
              try simp only [Act.put, List.setIfInBounds_toArray, List.set_cons_zero, List.set_cons_succ]
              refine wpAnyH_take (i := 6) (v := ?_) (by (simp only [List.getElem?_toArray, List.getElem?_cons_succ, List.getElem?_cons_zero]; rfl)) (by kernel_rfl) (by kernel_rfl) (by kernel_rfl) (by intro _ _ _ h; exact h) (Or.inl ⟨by rfl, ?_⟩) (by assumption) ?_
              rotate_left
              · (intro w hSw; (try dsimp only at hSw); go_simp; try (with_reducible rfl))
              simp only [Act.put, List.setIfInBounds_toArray, List.set_cons_zero, List.set_cons_succ]
              refine wpAnyH_done (by kernel_rfl) ?_ _
              clear hHeld q0 q1
              go_wp2
              refine bodyPost_ret (refenc_results _ _ R #[.int .i64 d.its.length, .slice (some ⟨g, 0, none⟩) (encL d).length cap] rfl _ rfl rfl (setRow_heap wr.drew R _ _ _ _ HRm.out)) rfl ?_
              exact ⟨_, w1.heap.size, rfl, HB0.out.size, (show RowsAt wr.drew _ _ _ from HRS.out).setRow HRL.out, below_setRow (HB0.out.trans ((HBj.out.drew).mono HB0.out.size)) HRG.out⟩
end Go.Proofs.Ytgfgajekegfdgaa
