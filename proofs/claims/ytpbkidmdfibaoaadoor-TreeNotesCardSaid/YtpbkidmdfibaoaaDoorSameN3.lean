/-
  Layer 3: the contracts of slices.EqualFunc at elements and of tree.Same. Own work.
-/
import Derived.Test.YtpbkidmdfibaoaaDoorSame3
import Derived.Test.YtpbkidmdfibaoaaDoorAttr2
namespace Go.Proofs.YtpbkidmdfibaoaaDoor
set_option linter.unusedVariables false
set_option linter.unusedSimpArgs false
open Go.RowKit

/-- an element as a value -/
def nodeV (x : Tr) (va vk : Value) : Value := .agg #[.string (str x.n), va, vk, .string (str x.t)]
/-- function f tells whether this tree and any other one are the same -/
def SameAt (f : FuncId) (x : Tr) : Prop :=
  ∀ (y : Tr) (va vk va' vk' : Value) (w : World), NdV w (allF w) x va vk → NdV w (allF w) y va' vk' → Calls Tryd.prog f #[nodeV x va vk, nodeV y va' vk'] w fun e w' => e = .returned (.bool (eqT x y)) ∧ Below w.heap.size w w'
theorem node_cells {w : World} {F : Nat → Prop} {x : Tr} {va vk : Value} (h : NdV w F x va vk) : ∃ a c b d, va = .slice a x.ats.length c ∧ vk = .slice b x.ks.length d := by
  obtain ⟨a, c, h1⟩ := h.ats.shape
  obtain ⟨b, d, h2⟩ := h.rd.shape
  exact ⟨a, c, b, d, h1, h2⟩
set_option maxRecDepth 100000 in
set_option maxHeartbeats 2000000 in
theorem EqualFunc_any (va vb : Value) (l m : List Tr) (hS : ∀ x ∈ l, SameAt 14 x) (w : World) (ha : RdSl 4 (NdAt w (allF w)) va l) (hb : RdSl 4 (NdAt w (allF w)) vb m) :
    Calls Tryd.prog 31 #[va, vb, .func (.func 14) #[] #[]] w fun e w' => e = .returned (.bool (eqT l m)) ∧ Below w.heap.size w w' := by
  obtain ⟨aa, ac, rfl⟩ := RdSl.shape ha
  obtain ⟨ba, bc, rfl⟩ := RdSl.shape hb
  have hla := RdSl.len ha
  have hlaI : (l.length : Int) ≤ 9223372036854775807 := by omega
  have HA := Lib.hid ha
  have HBB := Lib.hid hb
  have HS := Lib.hid hS
  clear ha hb hS
  by_cases hlm : l.length = m.length
  case neg =>
    have HE := Lib.hid (show eqT l m = false from eqT_no fun h => hlm (by rw [h]))
    have hq : (((l.length : Nat) : Int) == ((m.length : Nat) : Int)) = false := by rw [beq_eq_false_iff_ne]; omega
    have hq2 : ¬ l.length = m.length := hlm
    go_enter Tryd.func31, Tryd.ntmps31
    go_wp2_with fail
    go_ret
    exact ⟨ret_bool HE.out.symm, Below.refl _ _⟩
  case pos =>
  have HLM := Lib.hid hlm
  rw [← hlm] at HBB ⊢
  clear hlm
  go_enter Tryd.func31, Tryd.ntmps31
  go_wp2_with fail
  go_loopw [17] (fun i wr => ∃ k : Nat, k ≤ l.length ∧ i = .int .i64 k ∧ Below w.heap.size w wr ∧ l.take k = m.take k) (fun i _ => l.length - (intOf i).toNat)
  case atStart => exact ⟨0, by omega, rfl, Below.refl _ _, rfl⟩
  case round =>
    obtain ⟨k, hk, rfl, hbw, htk⟩ := hrel
    have HB := Lib.hid hbw
    have HTK := Lib.hid htk
    clear htk
    by_cases hlt : k < l.length
    · obtain ⟨x, hx⟩ : ∃ x, l[k]? = some x := ⟨_, List.getElem?_eq_getElem hlt⟩
      obtain ⟨y, hy⟩ : ∃ y, m[k]? = some y := ⟨_, List.getElem?_eq_getElem (by rw [← HLM.out]; exact hlt)⟩
      obtain ⟨a1, e1, va, vk, ⟨p0, p1, p2, p3⟩, hnx⟩ := RdSl.elem (RdSl.mono HA.out fun _ _ h => NdAt.below h hbw (Nat.le_refl _)) hx
      subst e1
      obtain ⟨b1, e1, vb, vm, ⟨q0, q1, q2, q3⟩, hny⟩ := RdSl.elem (RdSl.mono HBB.out fun _ _ h => NdAt.below h hbw (Nat.le_refl _)) hy
      subst e1
      obtain ⟨c1, c2, c3, c4, rfl, rfl⟩ := node_cells hnx
      obtain ⟨d1, d2, d3, d4, rfl, rfl⟩ := node_cells hny
      obtain ⟨wb, hwb⟩ : ∃ wb, wb = wr.alloc (.cells #[.string (str x.n), .slice c1 x.ats.length c2, .slice c3 x.ks.length c4, .string (str x.t)] 25) := ⟨_, rfl⟩
      obtain ⟨wc, hwc⟩ : ∃ wc, wc = wb.alloc (.cells #[.string (str y.n), .slice d1 y.ats.length d2, .slice d3 y.ks.length d4, .string (str y.t)] 25) := ⟨_, rfl⟩
      have hbb : Below wr.heap.size wr wb := by rw [hwb]; exact (Below.refl _ _).alloc (Nat.le_refl _) _
      have hbc : Below wb.heap.size wb wc := by rw [hwc]; exact (Below.refl _ _).alloc (Nat.le_refl _) _
      have hrb : wb.heap[wr.heap.size]? = some (.cells #[.string (str x.n), .slice c1 x.ats.length c2, .slice c3 x.ks.length c4, .string (str x.t)] 25 (0, 0)) := by rw [hwb]; exact heap_alloc_new wr _
      have hrc : wc.heap[wb.heap.size]? = some (.cells #[.string (str y.n), .slice d1 y.ats.length d2, .slice d3 y.ks.length d4, .string (str y.t)] 25 (0, 0)) := by rw [hwc]; exact heap_alloc_new wb _
      have hrbc := (hbc.block _ (Array.getElem?_eq_some_iff.1 hrb).1).trans hrb
      have hbrc : Below wr.heap.size wr wc := hbb.trans (hbc.mono hbb.size)
      have HC := Lib.hid (HS.out x (List.mem_of_getElem? hx) y _ _ _ _ wc (hnx.onto hbrc (Nat.le_refl _)) (hny.onto hbrc (Nat.le_refl _)))
      unfold nodeV at HC
      have HBC := Lib.hid (hbw.trans (hbrc.mono hbw.size))
      have HWB := Lib.hid hwb
      have HWC := Lib.hid hwc
      have HRC := Lib.hid hrc
      have HRBC := Lib.hid hrbc
      have HQ := Lib.hid (fun (A : Addr) (v : Value) (h : wr.cell? A = some v) => (hbb.cell (World.block_lt_of_cell? wr _ h)).trans h)
      have HX := Lib.hid hx
      have HY := Lib.hid hy
      have hkI : (k : Int) < (l.length : Int) := by omega
      clear hx hy hnx hny hwb hwc hbb hbc hrb hrc hrbc hbrc hbw
      have g0 := HQ.out _ _ q0
      have g1 := HQ.out _ _ q1
      have g2 := HQ.out _ _ q2
      have g3 := HQ.out _ _ q3
      clear q0 q1 q2 q3
      go_upto_region 6 with fail
      rw [← HWB.out]
      clear p0 p1 p2 p3
      generalize wr.heap.size = X at HRBC ⊢
      go_upto_region 7 with fail
      rw [← HWC.out]
      clear g0 g1 g2 g3
      generalize wb.heap.size = Y at HRC ⊢
      have x0 : wc.cell? ⟨X, 0, none⟩ = some (.string (str x.n)) := by rw [cell_of_row wc _ 0 _ _ (0, 0) HRBC.out]; rfl
      have x1 : wc.cell? ⟨X, 1, none⟩ = some (.slice c1 x.ats.length c2) := by rw [cell_of_row wc _ 1 _ _ (0, 0) HRBC.out]; rfl
      have x2 : wc.cell? ⟨X, 2, none⟩ = some (.slice c3 x.ks.length c4) := by rw [cell_of_row wc _ 2 _ _ (0, 0) HRBC.out]; rfl
      have x3 : wc.cell? ⟨X, 3, none⟩ = some (.string (str x.t)) := by rw [cell_of_row wc _ 3 _ _ (0, 0) HRBC.out]; rfl
      have y0 : wc.cell? ⟨Y, 0, none⟩ = some (.string (str y.n)) := by rw [cell_of_row wc _ 0 _ _ (0, 0) HRC.out]; rfl
      have y1 : wc.cell? ⟨Y, 1, none⟩ = some (.slice d1 y.ats.length d2) := by rw [cell_of_row wc _ 1 _ _ (0, 0) HRC.out]; rfl
      have y2 : wc.cell? ⟨Y, 2, none⟩ = some (.slice d3 y.ks.length d4) := by rw [cell_of_row wc _ 2 _ _ (0, 0) HRC.out]; rfl
      have y3 : wc.cell? ⟨Y, 3, none⟩ = some (.string (str y.t)) := by rw [cell_of_row wc _ 3 _ _ (0, 0) HRC.out]; rfl
      go_wp2_with fail
      refine HC.out.mono ?_
      rintro e w5 ⟨rfl, hb5⟩
      have HB5 := Lib.hid (HBC.out.trans (hb5.mono HBC.out.size))
      clear hb5 x0 x1 x2 x3 y0 y1 y2 y3
      by_cases hxy : x = y
      · rw [eqT_yes hxy]
        have HN := Lib.hid (show l.take (k + 1) = m.take (k + 1) by rw [take_snoc _ k x HX.out, take_snoc _ k y HY.out, HTK.out, hxy])
        clear hxy
        go_wp2
        go_roundw
        case rel => exact ⟨k + 1, by omega, by go_num, HB5.out, HN.out⟩
        case measure => simp [intOf]; omega
      · rw [eqT_no hxy]
        have HE := Lib.hid (show eqT l m = false from eqT_no fun h => hxy (by
          have h1 := HX.out
          rw [h, HY.out] at h1
          exact (Option.some.inj h1).symm))
        clear hxy
        go_wp2
        go_ret
        exact ⟨ret_bool HE.out.symm, HB5.out⟩
    · have hle : (l.length : Int) ≤ k := by omega
      have HE := Lib.hid (show eqT l m = true from eqT_yes (by
        have := HTK.out
        rw [List.take_of_length_le (by omega), List.take_of_length_le (by rw [← HLM.out]; omega)] at this
        exact this))
      go_wp2
      go_ret
      exact ⟨ret_bool HE.out.symm, HB.out⟩
end Go.Proofs.YtpbkidmdfibaoaaDoor
