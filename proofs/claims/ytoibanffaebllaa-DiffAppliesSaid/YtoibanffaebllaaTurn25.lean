/-
  Layer 25: the contract of diff.Turn. Own work.
-/
import Derived.Test.YtoibanffaebllaaMem25
import Derived.Deep.QuietTactic
import Derived.BigQuiet
import Derived.WalkLawsBesides
import Derived.Outline
namespace Go.Proofs.Ytoibanffaebllaa
set_option linter.unusedVariables false
set_option linter.unusedSimpArgs false
open Go.RowKit

theorem EdIn.newT (w : World) (e : Ed) : EdIn (w.alloc (.cells #[.string e.key.g, .string e.key.a, .string e.key.t, .string e.key.c, .bool e.had, .bool e.has, .string e.old.g, .string e.old.a, .string e.old.t, .string e.old.c, .string e.old.v, .int .i64 e.old.sc, .string e.new.g, .string e.new.a, .string e.new.t, .string e.new.c, .string e.new.v, .int .i64 e.new.sc] 50)) w.heap.size e := EdIn.new w e
def TurnP (l : List Ed) (w : World) (e : Ending) (w' : World) : Prop := ∃ v, e = .returned v ∧ RdE w' v (l.map turnE) ∧ Below w.heap.size w w'
set_option maxRecDepth 100000 in
set_option maxHeartbeats 4000000 in
theorem Turn_any (v1 : Value) (l : List Ed) (hl : l.length ≤ 1000000) (w : World) (h1 : RdE w v1 l) :
    Calls Try.prog 19 #[v1] w (TurnP l w) := by
  obtain ⟨a1, c1, rfl⟩ := h1.shape
  have HR1 := Lib.hid h1
  have hlI : (l.length : Int) ≤ 1000000 := by omega
  clear h1
  go_enter Try.func19, Try.ntmps19
  go_wp2_with fail
  go_loopw [3, 8] (fun v i wr => ∃ k : Nat, k ≤ l.length ∧ i = .int .i64 k ∧ wr.ownsRow w.heap.size 50 18 v k (rowE ((l.map turnE).take k)) ∧ Below w.heap.size w wr) (fun _ i _ => l.length - (intOf i).toNat)
  case atStart => exact ⟨0, by omega, rfl, by simpa [rowE] using World.ownsRow_nil _ _ _ _, Below.refl _ _⟩
  case round =>
    obtain ⟨k, hk, rfl, hown, hb⟩ := hrel
    have HB := Lib.hid hb
    have HO := Lib.hid hown
    by_cases hlt : k < l.length
    · obtain ⟨p, hp⟩ : ∃ p, l[k]? = some p := ⟨_, List.getElem?_eq_getElem hlt⟩
      obtain ⟨b1, rfl, _, _, _, hc1⟩ := HR1.out.elem hp
      have H1 := Lib.hid (RdE.atR hc1 hp hb (Nat.le_refl _))
      have hltI : (k : Int) < l.length := by omega
      have hk0 : (0 : Int) ≤ k := by omega
      have HTK := Lib.hid (show (l.map turnE).take (k + 1) = (l.map turnE).take k ++ [turnE p] from take_snoc (l.map turnE) k (turnE p) (by rw [List.getElem?_map, hp]; rfl))
      clear hc1 hp hb hown
      go_wp2_with (first
        | (refine wpList_load_ed rfl _ rfl _ rfl p H1.out ?_)
        | (refine wpList_store_ed rfl _ _ rfl _ rfl rfl p rfl ?_)
        | (at_builtin
           refine app18e ⟨p.key, p.has, p.had, p.new, p.old⟩ rfl _ _ 29 50 rfl _ 248 w.heap.size k Try.underlying29 ed_info rfl _ _ rfl (HO.out.alloc _) (by simp [Act.eval]) (by omega) (by omega) (by have := HB.out.size; simp; omega) ?_))
      intro v' w2 ho2 hg2 _
      have HO2 := Lib.hid (show w2.ownsRow w.heap.size 50 18 v' (k + 1) (rowE ((l.map turnE).take (k + 1))) from by rw [HTK.out, rowE_snoc]; exact ho2)
      have HB2 := Lib.hid (HB.out.trans ((((Below.refl w.heap.size wr).alloc HB.out.size _).grown hg2 (by have := HB.out.size; simp; omega) (fun k hk => (HO.out.lt k hk).1))))
      clear ho2 hg2
      go_wp2
      go_roundw
      case rel => exact ⟨k + 1, by omega, by go_num, HO2.out, HB2.out⟩
      case measure => simp [intOf]; omega
    · have hlt' : (l.length : Int) ≤ k := by omega
      have hkl : k = l.length := by omega
      subst hkl
      have HF := Lib.hid (show RdE wr _ (l.map turnE) from by have := HO.out; rw [List.take_of_length_le (by simp)] at this; exact RdE.of_own (by simpa using this))
      clear hb hown
      go_wp2
      go_ret
      exact ⟨_, rfl, HF.out, HB.out⟩
end Go.Proofs.Ytoibanffaebllaa
