/-
  Layer 3: the grower's methods begin and end. Own work.
-/
import Derived.Test.YtpbkidmdfibaoaaGreatDoorGro3
namespace Go.Proofs.YtpbkidmdfibaoaaGreatDoor
set_option linter.unusedVariables false
set_option linter.unusedSimpArgs false
open Go.RowKit

variable {Od : Nat → Prop}

/-- what a method of the grower comes to -/
def GP (w0 : World) (Od : Nat → Prop) (w : World) (G : Nat) (r : Rg) (e : Ending) (w' : World) : Prop :=
  match r with
  | .ok g => e = .returned (.int .i64 0) ∧ ∃ fs vo vr F, GR w0 Od G g fs vo vr F w'
  | .bad c => e = .returned (.int .i64 c) ∧ Below w.heap.size w w'
theorem st_nil {w0 w : World} {G : Nat} {g : Gs} {fs : List Fr} {vo vr : Value} {F : Nat → Prop} (h : GR w0 Od G g fs vo vr F w) : g.st.length = fs.length := by rw [← h.st]; simp
theorem GR.vr {w0 w : World} {G : Nat} {g : Gs} {fs : List Fr} {vo vr : Value} {F : Nat → Prop} (h : GR w0 Od G g fs vo vr F w) : ∃ a, vr = .pointer a ∧ (a = none ↔ g.root = none) := by
  have hr := h.rt
  cases hg : g.root with
  | none => rw [hg] at hr; exact ⟨none, hr, by simp⟩
  | some t =>
    rw [hg] at hr
    obtain ⟨R, va, vk, h1, _⟩ := hr
    exact ⟨_, h1, by simp⟩
set_option maxRecDepth 100000 in
set_option maxHeartbeats 1000000 in
theorem gend_at {w0 w : World} {G : Nat} {g : Gs} {fs : List Fr} {vo vr : Value} {F : Nat → Prop} (h : GR w0 Od G g fs vo vr F w) (n : List UInt8) :
    Calls Tryz.prog 43 #[.pointer (some ⟨G, 0, none⟩), .string (str n)] w (GP w0 Od w G (endG g n)) := by
  have hobj := h.obj
  cases fs with
  | nil =>
    obtain ⟨a, c, rfl⟩ := h.op.shape
    have c0 : w.cell? ⟨G, 0, none⟩ = some (.slice a 0 c) := by rw [cell_of_row w G 0 _ _ (0, 0) hobj]; rfl
    have HE := Lib.hid (show endG g n = .bad 16 by unfold endG; rw [← h.st]; rfl)
    clear hobj h
    go_enter Tryz.func43, Tryz.ntmps43
    go_wp2_with fail
    go_ret
    rw [HE.out]
    exact ⟨rfl, Below.refl _ _⟩
  | cons f fs =>
    obtain ⟨O, c, rfl, hkc, hcell⟩ := h.top
    have hd := h.dl
    simp only [List.length_cons] at hd
    have HST := Lib.hid h.st
    obtain ⟨N, m, ats, va, vk, kd⟩ := f
    obtain ⟨K, hK⟩ : ∃ K, K = fs.length := ⟨_, rfl⟩
    rw [← hK] at h hcell hkc hd hobj
    have HK := Lib.hid hK
    have c0 : w.cell? ⟨G, 0, none⟩ = some (.slice (some ⟨O, 0, none⟩) (K + 1) c) := by rw [cell_of_row w G 0 _ _ (0, 0) hobj]; rfl
    have HIN := Lib.hid (inner_at hobj hcell hkc (by omega))
    dsimp only at HIN
    have HB1 := Lib.hid (h.below (w' := w.drew) (Below.refl _ _).drew)
    have hK1 : ((K : Int) + 1 == 0) = false := by simp; omega
    have hK2 : ¬ ((K : Int) + 1 = 0) := by omega
    clear h hcell hobj hK
    go_enter Tryz.func43, Tryz.ntmps43
    go_upto_region 3 with fail
    go_wp2_with fail
    refine HIN.out.mono ?_
    rintro e w1 ⟨rfl, hw1⟩
    have H1 := Lib.hid (show GR w0 Od G g _ _ _ F w1 by rw [hw1]; exact HB1.out)
    have HBW := Lib.hid (show Below w.heap.size w w1 by rw [hw1]; exact (Below.refl _ _).drew)
    clear hw1 HB1 HIN
    have hnode := (H1.out.ok _ List.mem_cons_self).node
    have x0 : w1.cell? ⟨N, 0, none⟩ = some (.string (str m)) := by rw [cell_of_row w1 N 0 _ _ (0, 0) hnode]; rfl
    clear hnode c0
    by_cases hmn : m = n
    · have HL := Lib.hid (leave_at H1.out)
      have HE := Lib.hid (show endG g n = .ok (leaveG g) by unfold endG; rw [← HST.out]; simp [Fr.tr, Tr.n, hmn])
      have hq : ((str m).toList != (str n).toList) = false := by rw [hmn]; simp
      have hq2 : (str m).toList = (str n).toList := by rw [hmn]
      clear hmn
      go_wp2_with (go_at_call 56; refine HL.out.mono ?_; rintro e w5 ⟨rfl, h5⟩)
      go_ret
      rw [HE.out]
      exact ⟨rfl, h5⟩
    · have HE := Lib.hid (show endG g n = .bad 14 by unfold endG; rw [← HST.out]; simp [Fr.tr, Tr.n, hmn])
      have hq : ((str m).toList == (str n).toList) = false := by
        rw [beq_eq_false_iff_ne]; intro h; exact hmn (strEq.1 h)
      have hq2 : ¬ (str m).toList = (str n).toList := fun h => hmn (strEq.1 h)
      clear hmn
      go_wp2_with fail
      go_ret
      rw [HE.out]
      exact ⟨rfl, HBW.out⟩
theorem alloc2_cell {w : World} {a : Addr} {v : Value} (h : w.cell? a = some v) (o o' : Obj) : ((w.alloc o).alloc o').cell? a = some v :=
  ((((Below.refl w.heap.size w).alloc (Nat.le_refl _) o).alloc (by simp) o').cell (World.block_lt_of_cell? w _ h)).trans h
theorem alloc2_at (w : World) (o : Obj) (u : Value) (e : TypeId) : (((w.alloc o).alloc (.cells #[u] e)).drew).cell? ⟨w.heap.size + 1, 0, none⟩ = some u := by
  show ((w.alloc o).alloc (.cells #[u] e)).cell? ⟨w.heap.size + 1, 0, none⟩ = some u
  rw [cell_of_row _ (w.heap.size + 1) 0 _ _ (0, 0) (heap_alloc2_new _ _ _)]; rfl
theorem begun {w2 w7 : World} {node arr : Obj} {v : Value} {g1 : Nat} (hlt : ∀ q, v.ownBlock = some q → q < w2.heap.size) (hm7 : Mvd v.ownBlock.toList (((w2.alloc node).alloc arr).drew) w7) (hor : v.ownBlock = some g1 ∨ (((w2.alloc node).alloc arr).drew).heap.size ≤ g1) :
    Mvd v.ownBlock.toList w2 w7 ∧ w7.heap[w2.heap.size]? = some node ∧ g1 ≠ w2.heap.size ∧ (v.ownBlock = some g1 ∨ w2.heap.size ≤ g1) := by
  have hb : Below w2.heap.size w2 (((w2.alloc node).alloc arr).drew) := (((Below.refl _ _).alloc (Nat.le_refl _) _).alloc (by simp) _).drew
  have hs : (((w2.alloc node).alloc arr).drew).heap.size = w2.heap.size + 2 := by show ((w2.alloc node).alloc arr).heap.size = _; simp
  refine ⟨(Mvd.of_below hb).trans hm7, ?_, ?_, ?_⟩
  · refine (hm7.block w2.heap.size (by omega) (fun hx => ?_)).trans ?_
    · have := hlt _ (by simpa using hx); omega
    · show ((w2.alloc node).alloc arr).heap[w2.heap.size]? = some node
      rw [Below.heap_alloc _ _ _ (by simp)]
      exact heap_alloc_new w2 node
  · rcases hor with h | h
    · have := hlt _ h; omega
    · omega
  · rcases hor with h | h
    · exact .inl h
    · exact .inr (by omega)
theorem alloc1_cell {w : World} {a : Addr} {v : Value} (h : w.cell? a = some v) (o : Obj) : (w.alloc o).cell? a = some v :=
  (((Below.refl w.heap.size w).alloc (Nat.le_refl _) o).cell (World.block_lt_of_cell? w _ h)).trans h
set_option maxRecDepth 100000 in
set_option maxHeartbeats 4000000 in
theorem gbegin_at {w0 w : World} {G : Nat} {g : Gs} {fs : List Fr} {vo vr : Value} {F : Nat → Prop} (h : GR w0 Od G g fs vo vr F w) (k : Int) (n t : List UInt8) (ats : List At2) (va : Value) (p0 p1 p2 : Int)
    (hva : RdAs w0 va ats) (hvq : ats ≠ [] → ∀ q, va.ownBlock = some q → Od q) :
    Calls Tryz.prog 42 #[.pointer (some ⟨G, 0, none⟩), .agg #[.int .i64 k, .string (str n), va, .string (str t), .int .i64 p0, .int .i64 p1, .int .i64 p2]] w (GP w0 Od w G (beginG g n ats k)) := by
  obtain ⟨aa, ac, rfl⟩ := hva.shape
  obtain ⟨vp, rfl, hvr⟩ := h.vr
  obtain ⟨oa, oc, hvo⟩ := h.op.shape
  rw [List.length_map, List.length_reverse] at hvo
  subst hvo
  obtain ⟨w1, hw1⟩ : ∃ w1, w1 = w.alloc (.cells #[.int .i64 k, .string (str n), .slice aa ats.length ac, .string (str t), .int .i64 p0, .int .i64 p1, .int .i64 p2] 51) := ⟨_, rfl⟩
  have hT1 : w1.heap[w.heap.size]? = some (.cells #[.int .i64 k, .string (str n), .slice aa ats.length ac, .string (str t), .int .i64 p0, .int .i64 p1, .int .i64 p2] 51 (0, 0)) := by rw [hw1]; exact heap_alloc_new w _
  have h1 := h.below (w' := w1) (by rw [hw1]; exact (Below.refl _ _).alloc (Nat.le_refl _) _)
  have HBW := Lib.hid (show Below w.heap.size w w1 by rw [hw1]; exact (Below.refl _ _).alloc (Nat.le_refl _) _)
  have hGT : G < w.heap.size ∧ ∀ q, (Value.slice oa fs.length oc).ownBlock = some q → q < w.heap.size := ⟨(h.lt G (by simp [mutL])).2, fun q hq => (h.op.lt q hq).2⟩
  have HW1 := Lib.hid hw1
  have HGT := Lib.hid hGT
  have HVQ := Lib.hid hvq
  have HVA := Lib.hid hva
  have HSL := Lib.hid (st_nil h)
  have HVR := Lib.hid hvr
  have hcl := h.cl
  have hdl := h.dl
  clear hw1 h hva hvq hGT hvr
  go_enter Tryz.func42, Tryz.ntmps42
  go_upto_region 1 with fail
  rw [← HW1.out]
  generalize hTT : w.heap.size = T at hT1 HGT ⊢
  have HTT := Lib.hid hTT
  clear hTT
  have H1 := Lib.hid h1
  have HT1 := Lib.hid hT1
  have hobj := h1.obj
  have c0 : w1.cell? ⟨G, 0, none⟩ = some (.slice oa fs.length oc) := by rw [cell_of_row w1 G 0 _ _ (0, 0) hobj]; rfl
  have c1 : w1.cell? ⟨G, 1, none⟩ = some (.pointer vp) := by rw [cell_of_row w1 G 1 _ _ (0, 0) hobj]; rfl
  have c2 : w1.cell? ⟨G, 2, none⟩ = some (.int .i64 (g.c : Int)) := by rw [cell_of_row w1 G 2 _ _ (0, 0) hobj]; rfl
  have f2 : w1.frozen? ⟨G, 2, none⟩ = false := frozen_of_row w1 G 2 _ _ hobj
  clear h1 hT1 hobj
  cases vp with
  | some R =>
    have HE := Lib.hid (show beginG g n ats k = .bad 16 by
      unfold beginG
      rw [if_pos]
      cases hg : g.root with
      | none => have := HVR.out.2 hg; cases this
      | some t => rfl)
    go_wp2_with fail
    go_ret
    rw [HE.out]
    exact ⟨rfl, HBW.out⟩
  | none =>
    have HR := Lib.hid (HVR.out.1 rfl)
    clear HVR
    have hcI : (g.c : Int) ≤ 4096 := by omega
    have hdI : (fs.length : Int) ≤ 64 := by omega
    by_cases hfull : 64 ≤ fs.length ∨ 4096 ≤ g.c
    · have HE := Lib.hid (show beginG g n ats k = .bad 2 by
        unfold beginG
        rw [if_neg (by rw [HR.out]; simp), if_pos (by rw [HSL.out]; exact hfull)])
      by_cases h64 : 64 ≤ fs.length
      · have hb : (64 : Int) ≤ (fs.length : Int) := by omega
        clear hfull h64
        go_wp2_with fail
        go_ret
        rw [HE.out]
        exact ⟨rfl, HBW.out⟩
      · have hb : ¬ (64 : Int) ≤ (fs.length : Int) := by omega
        have hb2 : (4096 : Int) ≤ (g.c : Int) := by omega
        clear hfull h64
        go_wp2_with fail
        go_ret
        rw [HE.out]
        exact ⟨rfl, HBW.out⟩
    · have hb : ¬ (64 : Int) ≤ (fs.length : Int) := by omega
      have hb2 : ¬ (4096 : Int) ≤ (g.c : Int) := by omega
      have hd1 : fs.length + 1 ≤ 64 := by omega
      have hc1 : g.c + 1 ≤ 4096 := by omega
      have HE := Lib.hid (show beginG g n ats k = if k = 2 then .ok (leaveG ⟨.mk n ats [] [] :: g.st, g.root, g.c + 1⟩) else .ok ⟨.mk n ats [] [] :: g.st, g.root, g.c + 1⟩ by
        unfold beginG
        rw [if_neg (by rw [HR.out]; simp), if_neg (by rw [HSL.out]; exact hfull)])
      clear hfull
      have HC := Lib.hid (H1.out.count hc1)
      rw [show ((g.c + 1 : Nat) : Int) = (g.c : Int) + 1 by omega] at HC
      have HM1 := Lib.hid (Mvd.of_set w1 G 2 (.int .i64 ((g.c : Int) + 1)))
      have hT2 : (w1.setCell ⟨G, 2, none⟩ (.int .i64 ((g.c : Int) + 1))).heap[T]? = _ := (HM1.out.block T (Array.getElem?_eq_some_iff.1 HT1.out).1 (fun hx => by have := HGT.out.1; simp at hx; omega)).trans HT1.out
      go_upto_region 6 with fail
      generalize w1.setCell ⟨G, 2, none⟩ (.int .i64 ((g.c : Int) + 1)) = w2 at hT2 HC HM1 ⊢
      have HT2 := Lib.hid hT2
      have H2 := Lib.hid (show GR w0 Od G ⟨g.st, g.root, g.c + 1⟩ fs _ _ F w2 from HC.out)
      have hobj2 := H2.out.obj
      rw [show (((⟨g.st, g.root, g.c + 1⟩ : Gs).c : Nat) : Int) = (g.c : Int) + 1 by show ((g.c + 1 : Nat) : Int) = _; omega] at hobj2
      have HOBJ2 := Lib.hid hobj2
      have y0 : w2.cell? ⟨G, 0, none⟩ = some (.slice oa fs.length oc) := by rw [cell_of_row w2 G 0 _ _ (0, 0) hobj2]; rfl
      have y0a : ∀ o, (w2.alloc o).cell? ⟨G, 0, none⟩ = some (.slice oa fs.length oc) := fun o => alloc1_cell y0 o
      have y0b : ∀ o o', ((w2.alloc o).alloc o').cell? ⟨G, 0, none⟩ = some (.slice oa fs.length oc) := fun o o' => alloc2_cell y0 o o'
      have t1 : w2.cell? ⟨T, 1, none⟩ = some (.string (str n)) := by rw [cell_of_row w2 T 1 _ _ (0, 0) hT2]; rfl
      have t2 : w2.cell? ⟨T, 2, none⟩ = some (.slice aa ats.length ac) := by rw [cell_of_row w2 T 2 _ _ (0, 0) hT2]; rfl
      have HN := Lib.hid (show (fs.reverse.map Fr.ptr).length = fs.length by simp)
      have HN2 := Lib.hid (show fs.length ≤ 100000 by omega)
      have HG2 := Lib.hid (show G < w2.heap.size from (Array.getElem?_eq_some_iff.1 hobj2).1)
      have HTW := Lib.hid (show T < w2.heap.size from (Array.getElem?_eq_some_iff.1 hT2).1)
      have HTOT := Lib.hid (show Tr.sizes g.st + 1 ≤ g.c + 1 from Nat.succ_le_succ H1.out.tot)
      have HLT := Lib.hid (fun q hq => (H2.out.op.lt q hq).2)
      have HOPN := Lib.hid (show G ∉ (Value.slice oa fs.length oc).ownBlock.toList from fun hx => H2.out.opn G (by simpa using hx) (by simp))
      have HTN := Lib.hid (show T ∉ (Value.slice oa fs.length oc).ownBlock.toList from fun hx => by have := HGT.out.2 T (by simpa using hx); omega)
      clear c0 c1 c2 f2 hT2 hobj2 HC
      go_region_law (first
        | (refine stepP (w2 := w2) (.tmp 34) (.tmp 41) rfl rfl (.pointer (some ⟨w2.heap.size, 0, none⟩)) (w2.heap.size + 1) fs.length (by simp [Act.eval, Act.put]) (by simp [Act.eval, Act.put]) (by repeat (first | exact Below.refl _ _ | refine Below.drew ?_ | refine Below.alloc ?_ (by simp <;> omega) _)) H2.out.op H2.out.b.size (alloc2_at w2 _ _ _) rfl HN.out HN2.out ?_; intro g1 q1 w7 ho7 hm7 hor7; obtain ⟨m7, n7, ne7, or7⟩ := begun HLT.out hm7 hor7; clear hm7 hor7; have h7 : w7.heap[G]? = _ := (m7.block G HG2.out HOPN.out).trans HOBJ2.out; have f7 : w7.frozen? ⟨G, 0, none⟩ = false := frozen_of_row w7 G 0 _ _ h7; have c7 : w7.cell? ⟨G, 0, none⟩ = some (.slice oa fs.length oc) := (by rw [cell_of_row w7 G 0 _ _ (0, 0) h7]; rfl); have H7 := Lib.hid h7; have t7 : w7.heap[T]? = _ := (m7.block T HTW.out HTN.out).trans HT2.out; have T7 := Lib.hid t7; clear h7 t7))
      all_goals
        have hs7 := Mvd.of_set w7 G 0 (.slice (some ⟨g1, 0, none⟩) (fs.length + 1) q1)
        have hGN : G ≠ w2.heap.size := by have := HG2.out; omega
        have hTG : T ≠ G := by have := HGT.out.1; omega
        have hg1G : g1 ≠ G := fun he => by
          rcases or7 with h | h
          · exact HOPN.out (by rw [h, he]; simp)
          · have := HG2.out; omega
        have HFIN := Lib.hid (H2.out.push (N := w2.heap.size) (n := n) (ats := ats) HR.out HTOT.out hd1 ((m7.mono fun x hx => List.mem_cons_of_mem _ hx).trans (hs7.mono fun x hx => by rw [List.mem_singleton.1 hx]; simp)) (Nat.le_refl _)
          ((hs7.block _ (Array.getElem?_eq_some_iff.1 n7).1 (fun hx => hGN (List.mem_singleton.1 hx).symm)).trans n7) HVA.out HVQ.out
          (heap_setCell_same w7 G 0 _ _ _ H7.out) (ho7.kept hs7 (fun q hq hx => hg1G (by cases hq; exact List.mem_singleton.1 hx))) (fun q hq => by cases hq; exact ⟨ne7, or7⟩))
        have t8 := (hs7.block T (Array.getElem?_eq_some_iff.1 T7.out).1 (fun hx => hTG (List.mem_singleton.1 hx))).trans T7.out
        clear f7 c7 ho7 m7 n7 ne7 or7 hs7 hGN hTG hg1G y0 y0a y0b t1 t2
        go_upto_region 7 with fail
        generalize w7.setCell ⟨G, 0, none⟩ (.slice (some ⟨g1, 0, none⟩) (fs.length + 1) q1) = w8 at HFIN t8 ⊢
        have z0 : w8.cell? ⟨T, 0, none⟩ = some (.int .i64 k) := by rw [cell_of_row w8 T 0 _ _ (0, 0) t8]; rfl
        by_cases hk : k = 2
        · have HL := Lib.hid (leave_at HFIN.out)
          have HE2 := Lib.hid (HE.out.trans (if_pos hk))
          have hk2 : (k == 2) = true := by simpa using hk
          clear hk t8
          go_wp2_with (go_at_call 56; refine HL.out.mono ?_; rintro e w5 ⟨rfl, h5⟩)
          go_ret
          rw [HE2.out]
          exact ⟨rfl, h5⟩
        · have HE2 := Lib.hid (HE.out.trans (if_neg hk))
          have hk2 : (k == 2) = false := by simpa using hk
          clear t8
          go_wp2_with fail
          go_ret
          rw [HE2.out]
          exact ⟨rfl, _, _, _, _, HFIN.out⟩
end Go.Proofs.YtpbkidmdfibaoaaGreatDoor
