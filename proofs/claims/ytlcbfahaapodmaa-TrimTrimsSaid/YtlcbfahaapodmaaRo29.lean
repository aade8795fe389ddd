/-
  Layer 29: the answer's without. Own work.
-/
import Derived.Test.YtlcbfahaapodmaaKr29
namespace Go.Proofs.Ytlcbfahaapodmaa
set_option linter.unusedVariables false
set_option linter.unusedSimpArgs false
open Go.RowKit

section
variable {w : World} {P : Nat → Prop} {v : Value} {cs : List (List Int)}
theorem add_add29 (b : Addr) (i j : Nat) : (b.add i).add j = b.add (i + j) := by
  unfold Addr.add
  by_cases h1 : i = 0
  · subst h1; simp
  · by_cases h2 : j = 0
    · subst h2; simp [h1]
    · simp [h1, h2, Nat.add_assoc]
theorem own_lit29 (w : World) : ((w.alloc (.cells #[] 27)).drew).ownsRow w.heap.size 27 1 (.slice (some ⟨w.heap.size, 0, none⟩) 0 0) 0 [] :=
  own_kept0 (World.ownsRow_lit (base := w.heap.size) (e := 27) (size := 1) w #[] 0 (Nat.le_refl _) (by decide) (by simp)) ⟨rfl, rfl, rfl, Nat.le_refl _, fun _ _ _ => rfl⟩
theorem grow_ad (w : World) (o : Obj) : w.grownBy (w.alloc o).drew none := (World.grownBy_alloc w o none).trans ⟨rfl, rfl, rfl, Nat.le_refl _, fun _ _ _ => rfl⟩
/-- what the two appends leave -/
theorem without_fin {i c : Nat} {rows : List Value} {w1 w2 : World} {v1 v2 : Value} (hc1 : cs.length ≤ c) (hc2 : c ≤ 9223372036854775807) (hi : i < cs.length) (hP : ∀ b, P b → b < w.heap.size) (h3 : rows.length = cs.length)
    (h5 : ∀ (j : Nat) d, cs[j]? = some d → ∃ r, rows[j]? = some r ∧ Rd1 w P r d)
    (hg1 : (w.alloc (.cells #[] 27)).drew.grownBy w1 (some w.heap.size)) (hat1 : v1.ownBlock = some w.heap.size ∨ v1.ownBlock = some (w.alloc (.cells #[] 27)).drew.heap.size)
    (ho2 : w2.ownsRow w.heap.size 27 1 v2 (0 + i + (cs.length - (i + 1))) ([] ++ rows.take i ++ rows.drop (i + 1))) (hg2 : w1.grownBy w2 v1.ownBlock) :
    w.grownBy w2 none ∧ RdK w2 P v2 (cs.eraseIdx i) := by
  have hz : (w.alloc (.cells #[] 27)).drew.heap.size = w.heap.size + 1 := by show (w.alloc (.cells #[] 27)).heap.size = _; simp
  have hg : w.grownBy w2 none := by
    have h0 := grow_ad w (.cells #[] 27)
    refine ⟨hg2.os.trans (hg1.os.trans h0.os), hg2.tape.trans (hg1.tape.trans h0.tape), hg2.output.trans (hg1.output.trans h0.output), Nat.le_trans h0.size (Nat.le_trans hg1.size hg2.size), fun k hk _ => ?_⟩
    refine (hg2.block k (Nat.lt_of_lt_of_le hk (Nat.le_trans h0.size hg1.size)) (fun e => ?_)).trans ((hg1.block k (Nat.lt_of_lt_of_le hk h0.size) (fun e => ?_)).trans (h0.block k hk (by simp)))
    · rcases hat1 with h | h
      · rw [h] at e; have := Option.some.inj e; omega
      · rw [h, hz] at e; have := Option.some.inj e; omega
    · have := Option.some.inj e; omega
  have hel : (cs.eraseIdx i).length = cs.length - 1 := by rw [List.length_eraseIdx, if_pos hi]
  have e1 : 0 + i + (cs.length - (i + 1)) = (cs.eraseIdx i).length := by rw [hel]; omega
  have e2 : [] ++ rows.take i ++ rows.drop (i + 1) = rows.eraseIdx i := by rw [List.nil_append, List.eraseIdx_eq_take_drop_succ]
  rw [e1, e2] at ho2
  refine ⟨hg, RdK.own ho2 (fun b hb hp => ?_) (by rw [hel, List.length_eraseIdx, if_pos (by omega)]; omega) (fun j d hj => ?_)⟩
  · have := (ho2.lt b hb).1
    have := hP b hp
    omega
  · rw [List.getElem?_eraseIdx] at hj
    rw [List.getElem?_eraseIdx]
    have hk : KeepW P w w2 := KeepW.of hg (fun b h => by cases h)
    by_cases hji : j < i
    · rw [if_pos hji] at hj ⊢
      obtain ⟨r, k1, k2⟩ := h5 j d hj
      exact ⟨r, k1, k2.keep hk⟩
    · rw [if_neg hji] at hj ⊢
      obtain ⟨r, k1, k2⟩ := h5 (j + 1) d hj
      exact ⟨r, k1, k2.keep hk⟩
set_option maxRecDepth 100000 in
set_option maxHeartbeats 1000000 in
theorem RWithout29 (i : Nat) (hR : RdK w P v cs) (hi : i < cs.length) (hn : cs.length ≤ 1000000) (hP : ∀ b, P b → b < w.heap.size) :
    Calls Try.prog 32 #[v, .int .i64 (i : Int)] w fun e w' => ∃ v', e = .returned v' ∧ w.grownBy w' none ∧ RdK w' P v' (cs.eraseIdx i) := by
  obtain ⟨a, c, rows, rfl, h1, h2, h3, h4, h5⟩ := hR
  obtain ⟨b, rfl, hb, hb2⟩ := h4 0 rows[0] (List.getElem?_eq_getElem (by omega))
  obtain ⟨ii, hi1, hi2, hi3, hi4⟩ := info_parts row29_info
  have HH := Lib.hid (show cs.length ≤ c ∧ c ≤ 9223372036854775807 ∧ rows.length = cs.length ∧ cs.length ≤ 1000000 from ⟨h1, h2, h3, hn⟩)
  have hlI : (cs.length : Int) ≤ 1000000 := by omega
  have hiI : (i : Int) < (cs.length : Int) := by omega
  have hcI : (cs.length : Int) ≤ (c : Int) := by omega
  have hcJ : (c : Int) ≤ 9223372036854775807 := by omega
  have hw1 : IntKind.i64.wrap ((i : Int) + 1) = (i : Int) + 1 := IntWalk.i64_in _ ⟨by omega, by omega⟩
  have hic : i ≤ c := by omega
  have hi6 : i + 1 ≤ cs.length := by omega
  have hi7 : i + 1 ≤ c := by omega
  have hi8 : (i : Int) + 1 ≤ (cs.length : Int) := by omega
  have hi9 : (0 : Int) ≤ (i : Int) + 1 := by omega
  have hi10 : (i : Int) ≤ (i : Int) + 1 := by omega
  have HOW := Lib.hid (own_lit29 w)
  have hcell : ∀ wx, w.grownBy wx none → ∀ (j : Nat) u, rows[j]? = some u → wx.cell? (b.add j) = some u := fun wx hg j u hu => by
    obtain ⟨b', e, _, k⟩ := h4 j u hu
    cases e
    exact hg.cell k (by simp)
  have HC := Lib.hid hcell
  have H1 := Lib.hid (show ∀ u ∈ rows, u.oneCell' = true from fun u hu => by
    obtain ⟨j, hj, rfl⟩ := List.getElem_of_mem hu
    obtain ⟨r, k1, k2⟩ := h5 j cs[j] (List.getElem?_eq_getElem (by omega))
    rw [List.getElem?_eq_getElem hj] at k1
    rw [Option.some.inj k1]
    exact k2.one)
  have HN1 := Lib.hid (show ∀ (j : Nat) u, (rows.take i)[j]? = some u → (w.alloc (.cells #[] 27)).drew.cell? (b.add j) = some u from fun j u hu => by
    rw [List.getElem?_take] at hu
    by_cases hj : j < i
    · rw [if_pos hj] at hu; exact hcell _ (grow_ad _ _) j u hu
    · rw [if_neg hj] at hu; cases hu)
  have hbl : ∀ (j : Nat) u, rows[j]? = some u → b.block < w.heap.size := fun j u hu => by
    have := World.block_lt_of_cell? w _ (hcell w (World.grownBy.refl _ _) j u hu)
    rw [addB] at this; exact this
  have HN2 := Lib.hid (show ∀ w1, (w.alloc (.cells #[] 27)).drew.grownBy w1 (some w.heap.size) → ∀ (j : Nat) u, (rows.drop (i + 1))[j]? = some u → w1.cell? ((⟨b.block, b.off + (i + 1), none⟩ : Addr).add j) = some u from fun w1 hg j u hu => by
    rw [List.getElem?_drop] at hu
    have e : (⟨b.block, b.off + (i + 1), none⟩ : Addr) = b.add (i + 1) := by unfold Addr.add; simp
    rw [e, add_add29]
    exact hg.cell (hcell _ (grow_ad _ _) _ u hu) (fun e => by rw [addB] at e; have := hbl _ u hu; have := Option.some.inj e; omega))
  have H5 := Lib.hid h5
  have HP := Lib.hid hP
  have hzz : (w.alloc (.cells #[] 27)).drew.heap.size = w.heap.size + 1 := by show (w.alloc (.cells #[] 27)).heap.size = _; simp
  have HZ := Lib.hid hzz
  clear h1 h2 h4 h5 hP hb hb2 hcell hzz hbl
  by_cases hcap : c = i + 1
  · subst hcap
    go_enter Try.func32, Try.ntmps32
    go_upto_region 1 with fail
    go_region_law (first
      | (refine step_append_at rfl (.tmp 5) (.tmp 8) 22 rfl w.heap.size 27 ii _ 1 24 Try.underlying22 hi1 hi2 hi3 hi4 rfl (by omega) _ 0 [] (by rfl) HOW.out b i (i + 1) (rows.take i) (by rfl) (by rw [List.length_take]; have := HH.out; omega) HN1.out (fun u hu => H1.out u (List.mem_of_mem_take hu)) (by unfold maxLen; have := HH.out; omega) (by have := HH.out; omega) (by rw [HZ.out]; omega) ?_; intro v1 w1 ho1 hg1 hat1)
      | (refine step_append_at rfl (.tmp 9) (.tmp 13) 22 rfl w.heap.size 27 ii _ 1 24 Try.underlying22 hi1 hi2 hi3 hi4 rfl (by omega) v1 (0 + i) ([] ++ rows.take i) (by rfl) ho1 b (cs.length - (i + 1)) 0 (rows.drop (i + 1)) (by rfl) (by rw [List.length_drop]; have := HH.out; omega) (fun j u hu => by rw [List.drop_eq_nil_of_le (by have := HH.out; omega)] at hu; simp at hu) (fun u hu => H1.out u (List.mem_of_mem_drop hu)) (by unfold maxLen; have := HH.out; omega) (by have := HH.out; omega) (by have h1 := HZ.out; have h2 := hg1.size; omega) ?_; intro v2 w2 ho2 hg2 hat2))
    go_wp2_with fail
    go_ret
    obtain ⟨f1, f2⟩ := without_fin (cs := cs) HH.out.1 HH.out.2.1 (by omega) HP.out HH.out.2.2.1 H5.out hg1 hat1 ho2 hg2
    exact ⟨v2, rfl, f1, f2⟩
  · have hcapb : (c == i + 1) = false := by simpa using hcap
    go_enter Try.func32, Try.ntmps32
    go_upto_region 1 with fail
    go_region_law (first
      | (refine step_append_at rfl (.tmp 5) (.tmp 8) 22 rfl w.heap.size 27 ii _ 1 24 Try.underlying22 hi1 hi2 hi3 hi4 rfl (by omega) _ 0 [] (by rfl) HOW.out b i c (rows.take i) (by rfl) (by rw [List.length_take]; have := HH.out; omega) HN1.out (fun u hu => H1.out u (List.mem_of_mem_take hu)) (by unfold maxLen; have := HH.out; omega) (by have := HH.out; omega) (by rw [HZ.out]; omega) ?_; intro v1 w1 ho1 hg1 hat1)
      | (refine step_append_at rfl (.tmp 9) (.tmp 13) 22 rfl w.heap.size 27 ii _ 1 24 Try.underlying22 hi1 hi2 hi3 hi4 rfl (by omega) v1 (0 + i) ([] ++ rows.take i) (by rfl) ho1 ⟨b.block, b.off + (i + 1), none⟩ (cs.length - (i + 1)) (c - (i + 1)) (rows.drop (i + 1)) (by rfl) (by rw [List.length_drop]; have := HH.out; omega) (HN2.out _ hg1) (fun u hu => H1.out u (List.mem_of_mem_drop hu)) (by unfold maxLen; have := HH.out; omega) (by have := HH.out; omega) (by have h1 := HZ.out; have h2 := hg1.size; omega) ?_; intro v2 w2 ho2 hg2 hat2))
    go_wp2_with fail
    go_ret
    obtain ⟨f1, f2⟩ := without_fin (cs := cs) HH.out.1 HH.out.2.1 (by omega) HP.out HH.out.2.2.1 H5.out hg1 hat1 ho2 hg2
    exact ⟨v2, rfl, f1, f2⟩
end
end Go.Proofs.Ytlcbfahaapodmaa
