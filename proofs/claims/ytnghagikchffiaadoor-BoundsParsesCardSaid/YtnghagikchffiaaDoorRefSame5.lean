/-
  Layer 5: the contract of the answer's Same. Own work.
-/
import Derived.Test.YtnghagikchffiaaDoorLives5
import Derived.Deep.QuietTactic
import Derived.BigQuiet
import Derived.Laws.StructEq
import Derived.Deep.Cut
import Derived.Deep.CutRange
namespace Go.Proofs.YtnghagikchffiaaDoor
set_option linter.unusedVariables false
set_option linter.unusedSimpArgs false
open Go.RowKit

set_option maxRecDepth 100000 in
set_option maxHeartbeats 1000000 in
theorem refSame_eq (hard : Bool) (ver : ByteArray) (p1 p2 : Value) (l : List Iv) (w : World) (r1 : RdI w p1 l) (r2 : RdI w p2 l) :
    Calls Tryd.prog 12 #[.agg #[.bool hard, .string ver, p1], .agg #[.bool hard, .string ver, p2]] w fun e w' => e = .returned (.bool true) ∧ Below w.heap.size w w' := by
  obtain ⟨a1, c1, rfl⟩ := rd_shape r1
  obtain ⟨a2, c2, rfl⟩ := rd_shape r2
  have hlb : (l.length : Int) ≤ 9223372036854775807 := by
    rcases r1 with ⟨_, rfl⟩ | ⟨a, cap, h, h1, h2, _⟩
    · simp
    · omega
  have HR1 := Lib.hid r1
  have HR2 := Lib.hid r2
  have hb0 : Below w.heap.size w ((w.alloc (.cells #[.bool hard, .string ver, .slice a1 l.length c1] 25)).alloc (.cells #[.bool hard, .string ver, .slice a2 l.length c2] 25)) := ((Below.refl w.heap.size w).alloc (Nat.le_refl _) _).alloc (by simp) _
  have hq1 : ((w.alloc (.cells #[.bool hard, .string ver, .slice a1 l.length c1] 25)).alloc (.cells #[.bool hard, .string ver, .slice a2 l.length c2] 25)).heap[w.heap.size]? = some (.cells #[.bool hard, .string ver, .slice a1 l.length c1] 25 (0, 0)) := (Below.heap_alloc _ _ _ (by simp)).trans (heap_alloc_new w _)
  have hq2 : ((w.alloc (.cells #[.bool hard, .string ver, .slice a1 l.length c1] 25)).alloc (.cells #[.bool hard, .string ver, .slice a2 l.length c2] 25)).heap[w.heap.size + 1]? = some (.cells #[.bool hard, .string ver, .slice a2 l.length c2] 25 (0, 0)) := heap_alloc2_new w _ _
  have hvn : (ver.toList != ver.toList) = false := by simp
  have hln : ((l.length : Int) != l.length) = false := by simp
  have hhn : (hard != hard) = false := by simp
  clear r1 r2
  go_enter Tryd.func12, Tryd.ntmps12
  go_upto_region 1 with fail
  generalize ((w.alloc (.cells #[.bool hard, .string ver, .slice a1 l.length c1] 25)).alloc (.cells #[.bool hard, .string ver, .slice a2 l.length c2] 25)) = w1 at hb0 hq1 hq2 ⊢
  have HB1 := Lib.hid hb0
  have Q1 := Lib.hid hq1
  have Q2 := Lib.hid hq2
  obtain ⟨x0, x1, x2, _⟩ := row3_cells hq1
  obtain ⟨y0, y1, y2, _⟩ := row3_cells hq2
  clear hb0 hq1 hq2
  go_wp2_with fail
  clear x0 x1 x2 y0 y1 y2
  go_loopw [30] (fun i wr => ∃ k : Nat, k ≤ l.length ∧ i = .int .i64 k ∧ Below w1.heap.size w1 wr) (fun i _ => l.length - (intOf i).toNat)
  case atStart => exact ⟨0, by omega, rfl, Below.refl _ _⟩
  case round =>
    obtain ⟨k, hk, rfl, hb⟩ := hrel
    have HBK := Lib.hid hb
    have HBW := Lib.hid (HB1.out.trans (hb.mono HB1.out.size))
    by_cases hlt : k < l.length
    · obtain ⟨p, hp⟩ : ∃ p, l[k]? = some p := ⟨_, List.getElem?_eq_getElem hlt⟩
      have hcs : ∀ {pa : Option Addr} {pc : Nat}, RdI w (.slice pa l.length pc) l → ∃ a, pa = some a ∧ ∀ (i : Nat) p, l[i]? = some p → ∀ (c : Nat) u, (ivCells p)[c]? = some u → w.cell? (a.add (i * 6 + c)) = some u := fun h => by
        rcases h with ⟨_, h⟩ | ⟨a, cap, h, _, _, hc⟩
        · subst h; simp at hlt
        · cases h; exact ⟨a, rfl, hc⟩
      obtain ⟨b1, rfl, hc1⟩ := hcs HR1.out
      obtain ⟨b2, rfl, hc2⟩ := hcs HR2.out
      obtain ⟨k0, k1, k2, k3, k4, k5⟩ := RdI.at hc1 hp HBW.out (Nat.le_refl _)
      obtain ⟨m0, m1, m2, m3, m4, m5⟩ := RdI.at hc2 hp HBW.out (Nat.le_refl _)
      obtain ⟨x0, x1, x2, _⟩ := row3_cells ((hb.block _ (Array.getElem?_eq_some_iff.1 Q1.out).1).trans Q1.out)
      obtain ⟨y0, y1, y2, _⟩ := row3_cells ((hb.block _ (Array.getElem?_eq_some_iff.1 Q2.out).1).trans Q2.out)
      have hltI : (k : Int) < l.length := by omega
      have hk0 : (0 : Int) ≤ k := by omega
      clear hcs hc1 hc2 hp hb
      go_wp2_with fail
      go_quiet (fail)
      go_wp2
      go_roundw
      case rel => exact ⟨k + 1, by omega, by go_num, below_drewN' HBK.out _⟩
      case measure => simp [intOf]; omega
    · have hltI : (l.length : Int) ≤ k := by omega
      clear hb
      go_wp2
      go_ret
      exact ⟨rfl, HBW.out⟩
end Go.Proofs.YtnghagikchffiaaDoor
