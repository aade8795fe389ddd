/-
  Layer 29: a clause without one literal, in a copy of the clauses. Own work.
-/
import Derived.Test.YtlcbfahaapodmaaRf29
namespace Go.Proofs.Ytlcbfahaapodmaa
set_option linter.unusedVariables false
set_option linter.unusedSimpArgs false
open Go.RowKit

theorem own_liti29 (w : World) : ((w.alloc (.cells #[] 3)).drew).ownsRow w.heap.size 3 1 (.slice (some ⟨w.heap.size, 0, none⟩) 0 0) 0 [] :=
  own_kept0 (World.ownsRow_lit (base := w.heap.size) (e := 3) (size := 1) w #[] 0 (Nat.le_refl _) (by decide) (by simp)) ⟨rfl, rfl, rfl, Nat.le_refl _, fun _ _ _ => rfl⟩
section
variable {w w1 w2 w3 : World} {P : Nat → Prop} {v v2 v3 : Value} {cs : List (List Int)} {c : List Int} {i k : Nat}
theorem two_app (hk : k < c.length) (hg1 : (w1.alloc (.cells #[] 3)).drew.grownBy w2 (some w1.heap.size)) (hat1 : v2.ownBlock = some w1.heap.size ∨ v2.ownBlock = some (w1.alloc (.cells #[] 3)).drew.heap.size)
    (ho3 : w3.ownsRow w1.heap.size 3 1 v3 (0 + k + (c.length - (k + 1))) ([] ++ (c.take k).map iV ++ (c.drop (k + 1)).map iV)) (hg2 : w2.grownBy w3 v2.ownBlock) :
    w1.grownBy w3 none ∧ w3.ownsRow w1.heap.size 3 1 v3 (c.eraseIdx k).length ((c.eraseIdx k).map iV) := by
  have hz : (w1.alloc (.cells #[] 3)).drew.heap.size = w1.heap.size + 1 := by show (w1.alloc (.cells #[] 3)).heap.size = _; simp
  have h0 := grow_ad w1 (.cells #[] 3)
  refine ⟨⟨hg2.os.trans (hg1.os.trans h0.os), hg2.tape.trans (hg1.tape.trans h0.tape), hg2.output.trans (hg1.output.trans h0.output), Nat.le_trans h0.size (Nat.le_trans hg1.size hg2.size), fun q hq _ => ?_⟩, ?_⟩
  · refine (hg2.block q (Nat.lt_of_lt_of_le hq (Nat.le_trans h0.size hg1.size)) (fun e => ?_)).trans ((hg1.block q (Nat.lt_of_lt_of_le hq h0.size) (fun e => ?_)).trans (h0.block q hq (by simp)))
    · rcases hat1 with h | h
      · rw [h] at e; have := Option.some.inj e; omega
      · rw [h, hz] at e; have := Option.some.inj e; omega
    · have := Option.some.inj e; omega
  · have hel : (c.eraseIdx k).length = c.length - 1 := by rw [List.length_eraseIdx, if_pos hk]
    have e1 : 0 + k + (c.length - (k + 1)) = (c.eraseIdx k).length := by rw [hel]; omega
    have e2 : [] ++ (c.take k).map iV ++ (c.drop (k + 1)).map iV = (c.eraseIdx k).map iV := by rw [List.nil_append, List.eraseIdx_eq_take_drop_succ, List.map_append]
    rw [e1, e2] at ho3
    exact ho3
/-- the copy, with the shorter clause -/
theorem dup_fin {g cap : Nat} {rows : List Value} (hP : ∀ b, P b → b < w.heap.size) (h3 : rows.length = cs.length) (h5 : ∀ (j : Nat) d, cs[j]? = some d → ∃ r, rows[j]? = some r ∧ Rd1 w P r d)
    (hgw1 : w.grownBy w1 none) (ho1 : w1.ownsRow w.heap.size 27 1 (.slice (some ⟨g, 0, none⟩) cs.length cap) cs.length rows)
    (hg13 : w1.grownBy w3 none) (ho3 : w3.ownsRow w1.heap.size 3 1 v3 c.length (c.map iV)) (hi : i < cs.length) :
    w.grownBy (w3.setCell ⟨g, i, none⟩ v3) none ∧ RdK (w3.setCell ⟨g, i, none⟩ v3) P (.slice (some ⟨g, 0, none⟩) cs.length cap) (cs.set i c) := by
  have hgb := ho1.lt g rfl
  have ho13 := own_kept0 ho1 hg13
  obtain ⟨q1, q2⟩ := ho13.stored i v3
  have hgw3 := hgw1.trans hg13
  have hgr : w.grownBy (w3.setCell ⟨g, i, none⟩ v3) none := own_grow hgw3 q2 (fun b hb => by cases hb; exact hgb.1)
  have hlen : (cs.set i c).length = cs.length := List.length_set ..
  refine ⟨hgr, RdK.own (hs := rows.set i v3) (by rw [hlen]; exact q1) (fun b hb hp => ?_) (by rw [List.length_set, hlen, h3]) (fun j d hj => ?_)⟩
  · have e : g = b := Option.some.inj hb
    subst e
    have := hP g hp
    omega
  · rw [List.getElem?_set] at hj
    by_cases hij : i = j
    · rw [if_pos hij, if_pos hi] at hj
      cases hj
      refine ⟨v3, by rw [List.getElem?_set, if_pos hij, if_pos (by omega)], ?_⟩
      have h6 : Rd1 w3 (fun b => P b ∨ b = g) v3 c := Rd1.own ho3 (fun b hb hp => by
        have h7 := (ho3.lt b hb).1
        have h8 := hgw1.size
        rcases hp with hp | rfl
        · have := hP b hp; omega
        · omega)
      exact (h6.keep (KeepW.of q2 (fun b hb => .inr (Option.some.inj hb).symm))).less (fun b hb => .inl (.inl hb))
    · rw [if_neg hij] at hj
      obtain ⟨r, k1, k2⟩ := h5 j d hj
      exact ⟨r, by rw [List.getElem?_set, if_neg hij]; exact k1, k2.keep (KeepW.of hgr (fun b h => by cases h))⟩
theorem row_cell29 {n0 n g m cap j : Nat} {e : TypeId} {xs : List Value} {x : Value} (h : w.ownsRow n0 e 1 (.slice (some ⟨g, 0, none⟩) m cap) n xs) (hx : xs[j]? = some x) : w.cell? ⟨g, j, none⟩ = some x ∧ w.frozen? ⟨g, j, none⟩ = false := by
  rcases RdO.of h with ⟨⟨a, h3⟩, h4⟩ | ⟨g', cap', h3, _, _, _, h5⟩
  · subst h4; simp at hx
  · injection h3 with h3 _ _
    cases h3
    exact h5 j x hx
theorem own_shape3 {n0 n : Nat} {e : TypeId} {xs : List Value} (h : w.ownsRow n0 e 1 v n xs) : ∃ a m c, v = .slice a m c := by
  rcases h.2 with ⟨h1, h2⟩ | ⟨g, cap, cur, h1, _⟩
  · exact ⟨none, 0, 0, h1⟩
  · exact ⟨_, _, _, h1⟩
theorem ones29 {l : List Int} : ∀ u ∈ l.map iV, u.oneCell' = true := fun u hu => by
  obtain ⟨y, _, rfl⟩ := List.mem_map.1 hu
  simp [Value.oneCell', iV]
/-- behind the copy -/
theorem copy_grow {o : Obj} (hg : (w.alloc o).grownBy w1 (some w.heap.size)) : w.grownBy w1 none :=
  own_grow (World.grownBy_alloc w o none) hg (fun b hb => by cases hb; exact Nat.le_refl _)
end
end Go.Proofs.Ytlcbfahaapodmaa
