/-
  Layer 25: the answer's Same of two rows of the same edits. Own work.
-/
import Derived.Test.YtoibanffaebllaaMem25
import Derived.Deep.QuietTactic
import Derived.BigQuiet
import Derived.WalkLawsBesides
namespace Go.Proofs.Ytoibanffaebllaa
set_option linter.unusedVariables false
set_option linter.unusedSimpArgs false
open Go.RowKit

set_option maxRecDepth 100000 in
set_option maxHeartbeats 4000000 in
theorem refSameE_any (v1 v2 : Value) (l : List Ed) (hl : l.length ≤ 1000000) (w : World) (h1 : RdE w v1 l) (h2 : RdE w v2 l) :
    Calls Try.prog 11 #[v1, v2] w fun e w' => e = .returned (.bool true) ∧ Below w.heap.size w w' := by
  obtain ⟨a1, c1, rfl⟩ := h1.shape
  obtain ⟨a2, c2, rfl⟩ := h2.shape
  have HR1 := Lib.hid h1
  have HR2 := Lib.hid h2
  have hlI : (l.length : Int) ≤ 1000000 := by omega
  have hne : ((l.length : Int) != l.length) = false := by simp
  clear h1 h2
  go_enter Try.func11, Try.ntmps11
  go_wp2_with fail
  go_loopw [13] (fun i wr => ∃ k : Nat, k ≤ l.length ∧ i = .int .i64 k ∧ Below w.heap.size w wr) (fun i _ => l.length - (intOf i).toNat)
  case atStart => exact ⟨0, by omega, rfl, Below.refl _ _⟩
  case round =>
    obtain ⟨k, hk, rfl, hb⟩ := hrel
    have HB := Lib.hid hb
    by_cases hlt : k < l.length
    · obtain ⟨p, hp⟩ : ∃ p, l[k]? = some p := ⟨_, List.getElem?_eq_getElem hlt⟩
      obtain ⟨b1, rfl, _, _, _, hc1⟩ := HR1.out.elem hp
      obtain ⟨b2, rfl, _, _, _, hc2⟩ := HR2.out.elem hp
      have H1 := Lib.hid (fun (w' : World) (hw : ∃ n, w' = wr.drewN n) => show EdR w' (b1.add (k * 18)) p from by obtain ⟨n, rfl⟩ := hw; exact RdE.atR hc1 hp (below_drewN hb n) (Nat.le_refl _))
      have H2 := Lib.hid (fun (w' : World) (hw : ∃ n, w' = wr.drewN n) => show EdR w' (b2.add (k * 18)) p from by obtain ⟨n, rfl⟩ := hw; exact RdE.atR hc2 hp (below_drewN hb n) (Nat.le_refl _))
      have hltI : (k : Int) < l.length := by omega
      have hk0 : (0 : Int) ≤ k := by omega
      have HNQ := Lib.hid (fun w => neq_ed p w)
      clear hc1 hc2 hp hb
      go_wp2_with fail
      refine wp_region_quiet_lit (by kernel_rfl) (by kernel_rfl) ?_
      repeat (first
        | (go_big_quiet_want; refine quiet_load_ed _ rfl _ rfl p H1.out ?_; go_simp; go_big_quiet_on)
        | (go_big_quiet_want; refine quiet_load_ed _ rfl _ rfl p H2.out ?_; go_simp; go_big_quiet_on)
        | (go_big_quiet_want; refine quiet_bin .neq 50 50 _ _ rfl _ HNQ.out (fun w => run_eqGuard_agg w _ _ _ _ _ _ (by kernel_rfl)) ?_; go_simp; go_big_quiet_on)
        | go_big_quiet_step (fail))
      refine wpQuiet_nil ?_
      intro _ hw'
      obtain ⟨nq, hw''⟩ := hw'
      subst hw''
      go_wp2
      go_roundw
      case rel => exact ⟨k + 1, by omega, by go_num, below_drewN HB.out _⟩
      case measure => simp [intOf]; omega
    · have hlt' : (l.length : Int) ≤ k := by omega
      clear hb
      go_wp2
      go_ret
      exact ⟨rfl, HB.out⟩
end Go.Proofs.Ytoibanffaebllaa
