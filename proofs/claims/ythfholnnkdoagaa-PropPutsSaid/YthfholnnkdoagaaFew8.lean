/-
  Layer 8: the law's few. Own work.
-/
import Derived.Test.YthfholnnkdoagaaOp8
namespace Go.Proofs.Ythfholnnkdoagaa
set_option linter.unusedVariables false
set_option linter.unusedSimpArgs false
open Go.RowKit

def Fit8 (L : List Pp) : Prop := L.length ≤ 60 ∧ ∀ p ∈ L, p.1.length ≤ 1000 ∧ p.2.length ≤ 1000
def FewP (w : World) (e : Ending) (w' : World) : Prop := ∃ v L, e = .returned v ∧ w'.ownsRow w.heap.size 33 2 v (prs L).length (rowPr (prs L)) ∧ Fit8 L ∧ Below w.heap.size w w'
set_option maxRecDepth 100000 in
set_option maxHeartbeats 4000000 in
theorem few8_any (l : List Pr) (va : Value) (w : World) (ha : RdPs w va l) (hok : ∀ p ∈ l, okPr p) :
    Calls Try.prog 15 #[va] w (FewP w) := by
  obtain ⟨aa, ac, rfl⟩ := RdSl.shape ha
  have hla := RdSl.len ha
  have hlaI : (l.length : Int) ≤ 9223372036854775807 := by omega
  have HA := Lib.hid ha
  have HOK := Lib.hid hok
  clear ha hok
  go_enter Try.func15, Try.ntmps15
  go_wp2_with fail
  go_loopw [3, 8] (fun t3 i wr => ∃ (k : Nat) (L : List Pp), k ≤ l.length ∧ i = .int .i64 k ∧ L.length ≤ k ∧ Fit8 L ∧ wr.ownsRow w.heap.size 33 2 t3 L.length (rowPr (prs L)) ∧ Below w.heap.size w wr) (fun _ i _ => l.length - (intOf i).toNat)
  case atStart => exact ⟨0, [], by omega, rfl, by simp, ⟨by simp, by simp⟩, World.ownsRow_nil _ _ _ _, Below.refl _ _⟩
  case round =>
    obtain ⟨k, L, hk, rfl, hLk, hfit, how, hbw⟩ := hrel
    have HFT := Lib.hid hfit
    have HO := Lib.hid how
    have HB := Lib.hid hbw
    clear hfit how
    by_cases hlt : k < l.length
    · obtain ⟨x, hx⟩ : ∃ x, l[k]? = some x := ⟨_, List.getElem?_eq_getElem hlt⟩
      obtain ⟨a1, e1, p0, p1⟩ := RdSl.elem (HA.out.below hbw (Nat.le_refl _)) hx
      subst e1
      have hxk := HOK.out x (List.mem_of_getElem? hx)
      have hbb : Below wr.heap.size wr (wr.alloc (.cells #[.string x.n, .string x.v] 33)) := (Below.refl _ _).alloc (Nat.le_refl _) _
      have hnew := heap_alloc_new wr (.cells #[.string x.n, .string x.v] 33)
      have HO2 := Lib.hid (own_mvd8 HO.out hbb)
      have HBB := Lib.hid (HB.out.trans (hbb.mono HB.out.size))
      have hkI : (k : Int) < (l.length : Int) := by omega
      clear hbw hbb hx HO
      go_upto_region 5 with fail
      generalize wr.alloc (.cells #[.string x.n, .string x.v] 33) = w2 at hnew HO2 HBB ⊢
      generalize wr.heap.size = P0 at hnew ⊢
      have r0 : w2.cell? ⟨P0, 0, none⟩ = some (.string x.n) := by rw [cell_of_row w2 P0 0 _ _ (0, 0) hnew]; rfl
      have r1 : w2.cell? ⟨P0, 1, none⟩ = some (.string x.v) := by rw [cell_of_row w2 P0 1 _ _ (0, 0) hnew]; rfl
      clear p0 p1 hnew
      by_cases h60 : k < 60
      · have h60I : (k : Int) < 60 := by omega
        have HC0 := Lib.hid (fun w => cutL8_any x.n (by have := hxk.1; unfold maxLen at this; exact this) w)
        have HC1 := Lib.hid (fun w => cutL8_any x.v (by have := hxk.2; unfold maxLen at this; exact this) w)
        have hbase : w.heap.size ≤ w2.heap.size := HBB.out.size
        have hown := HO2.out
        obtain ⟨b3, c3, ht3⟩ := RdSl.shape (RdPs.of_own (l := prs L) (by rw [prs_len]; exact HO2.out))
        rw [prs_len] at ht3
        subst ht3
        have hL60 : L.length ≤ 60 := by omega
        clear hown
        go_upto_region 6 with fail
        go_region_law (first
          | (refine step_prop (w2 := w2) (.tmp 15) (.tmp 23) rfl rfl ⟨str ln, str lv⟩ w2.heap.size (by simp [Act.eval, Act.put]) (by simp [Act.eval, Act.put]) (by repeat (first | exact Below.refl _ _ | refine Below.drew ?_ | refine Below.alloc ?_ (by simp) _)) HO2.out (heap_alloc_new _ _) (by omega) hbase ?_; intro g6 q6 w6 ho6 hg6; have HG6 := Lib.hid hg6; have HO6 := Lib.hid ho6; clear ho6 hg6)
          | (go_simp; go_at_call 11; with_reducible refine (HC0.out _).mono ?_; rintro e w3 ⟨ln, rfl, hln, hw3⟩; subst hw3)
          | (go_simp; go_at_call 11; with_reducible refine (HC1.out _).mono ?_; rintro e w3 ⟨lv, rfl, hlv, hw3⟩; subst hw3))
        all_goals
          have HFIN := Lib.hid (show Fit8 (L ++ [(ln, lv)]) ∧ w6.ownsRow w.heap.size 33 2 (.slice (some ⟨g6, 0, none⟩) (L.length + 1) q6) (L ++ [(ln, lv)]).length (rowPr (prs (L ++ [(ln, lv)]))) ∧ Below w.heap.size w w6 from by
            refine ⟨⟨by rw [List.length_append, List.length_singleton]; omega, fun p hp => ?_⟩, ?_, ?_⟩
            · rcases List.mem_append.1 hp with hp | hp
              · exact HFT.out.2 p hp
              · rw [List.mem_singleton.1 hp]; exact ⟨hln, hlv⟩
            · rw [List.length_append, List.length_singleton, prs_app, rowPr_app]
              have : rowPr (prs [(ln, lv)]) = prL ⟨str ln, str lv⟩ := by simp [rowPr, prs]
              rw [this]
              exact HO6.out
            · exact HBB.out.grown HG6.out hbase (fun k hk => (HO2.out.lt k hk).1))
          clear r0 r1
          go_wp2
          go_roundw
          case rel => exact ⟨k + 1, _, by omega, by go_num, by rw [List.length_append, List.length_singleton]; omega, HFIN.out.1, HFIN.out.2.1, HFIN.out.2.2⟩
          case measure => simp [intOf]; omega
      · have h60I : ¬ (k : Int) < 60 := by omega
        clear r0 r1
        go_wp2
        go_roundw
        case rel => exact ⟨k + 1, L, by omega, by go_num, by omega, HFT.out, HO2.out, HBB.out⟩
        case measure => simp [intOf]; omega
    · have hle : (l.length : Int) ≤ k := by omega
      have HF := Lib.hid (show wr.ownsRow w.heap.size 33 2 _ (prs L).length (rowPr (prs L)) from by rw [prs_len]; exact HO.out)
      clear hbw
      go_wp2
      go_ret
      exact ⟨_, L, rfl, HF.out, HFT.out, HB.out⟩
end Go.Proofs.Ythfholnnkdoagaa
