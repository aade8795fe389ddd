/-
  Layer 6: scopes: what they are (plain), and the contracts of coord.Derive, Wider, Visible and of their answers. Own work.
-/
import Derived.Test.YtinhedegbaegnaaDoorBase
import Derived.Test.YtinhedegbaegnaaDoorRows
namespace Go.Proofs.YtinhedegbaegnaaDoor
set_option linter.unusedVariables false
set_option linter.unusedSimpArgs false
open Go.RowKit

def derI (a b : Int) : Int := if b = 1 ∨ b = 2 then (if a = 1 then b else if a = 2 ∨ a = 3 ∨ a = 5 then a else 0) else 0
def widI (a : Int) : Int := if a = 1 then 5 else if a = 2 then 4 else if a = 3 then 3 else if a = 4 then 2 else if a = 5 then 1 else 0
def widerI (a b : Int) : Int := if widI a < widI b then b else a
def visB (s p : Int) : Bool :=
  if p = 1 then decide (s = 1 ∨ s = 3 ∨ s = 4) else if p = 2 then decide (s = 1 ∨ s = 2) else if p = 5 then decide (1 ≤ s ∧ s ≤ 5) else if p = 3 then decide (s = 1 ∨ s = 3) else if p = 4 then decide (s = 4) else false
theorem widI_bd (a : Int) : 0 ≤ widI a ∧ widI a ≤ 5 := by unfold widI; repeat (first | omega | split)

theorem Derive_any (a b : Int) (w : World) :
    Calls Tryd.prog 31 #[.int .i64 a, .int .i64 b] w fun e w' => e = .returned (.int .i64 (derI a b)) ∧ w' = w := by
  go_enter Tryd.func31, Tryd.ntmps31
  go_wp2
  all_goals (go_ret; refine ⟨ret_int ?_, rfl⟩; unfold derI; simp_all; try omega)
theorem width_any (a : Int) (w : World) :
    Calls Tryd.prog 44 #[.int .i64 a] w fun e w' => e = .returned (.int .i64 (widI a)) ∧ w' = w := by
  go_enter Tryd.func44, Tryd.ntmps44
  go_wp2
  all_goals (go_ret; refine ⟨ret_int ?_, rfl⟩; unfold widI; simp_all)
theorem Wider_any (a b : Int) (w : World) :
    Calls Tryd.prog 33 #[.int .i64 a, .int .i64 b] w fun e w' => e = .returned (.int .i64 (widerI a b)) ∧ w' = w := by
  have h1 := widI_bd a
  have h2 := widI_bd b
  go_enter Tryd.func33, Tryd.ntmps33
  go_wp2_with (go_at_call 44; refine (width_any _ _).mono ?_; rintro e w' ⟨rfl, rfl⟩)
  all_goals (go_ret; refine ⟨ret_int ?_, rfl⟩; unfold widerI; simp_all; try omega)
theorem Visible_any (s p : Int) (w : World) :
    Calls Tryd.prog 35 #[.int .i64 s, .int .i64 p] w fun e w' => e = .returned (.bool (visB s p)) ∧ w' = w := by
  have h1 := widI_bd s
  go_enter Tryd.func35, Tryd.ntmps35
  go_wp2_with (go_at_call 44; refine (width_any _ _).mono ?_; rintro e w' ⟨rfl, rfl⟩)
  all_goals (go_ret; refine ⟨ret_bool ?_, rfl⟩; unfold visB; rw [Bool.eq_iff_iff]; simp_all; try (unfold widI; repeat (first | omega | (simp; omega) | split)))
theorem below_al {B : Nat} {w w' : World} (o : Obj) (hb : Below B w w') (hB : B ≤ w.heap.size) : Below B w (w'.alloc o) := hb.alloc (Nat.le_trans hB hb.size) o
theorem int7 {b : Int} (h : 0 ≤ b ∧ b ≤ 6) : b = 0 ∨ b = 1 ∨ b = 2 ∨ b = 3 ∨ b = 4 ∨ b = 5 ∨ b = 6 := by omega
theorem row0 (b : Int) (h : 0 ≤ b ∧ b ≤ 6) : ([Value.int .i64 0, Value.int .i64 0, Value.int .i64 0, Value.int .i64 0, Value.int .i64 0, Value.int .i64 0, Value.int .i64 0] : List Value)[b.toNat]? = some (.int .i64 (derI 0 b)) := by
  rcases int7 h with rfl | rfl | rfl | rfl | rfl | rfl | rfl <;> rfl
set_option maxHeartbeats 2000000 in
theorem refDerive_0 (b : Int) (h : 0 ≤ b ∧ b ≤ 6) (w : World) :
    Calls Tryd.prog 32 #[.int .i64 0, .int .i64 b] w fun e w' => e = .returned (.int .i64 (derI 0 b)) ∧ Below w.heap.size w w' := by
  have hrow := row0 b h
  obtain ⟨hb1, hb2⟩ := h
  go_enter Tryd.func32, Tryd.ntmps32
  go_wp2
  all_goals try (exfalso; omega)
  all_goals
    go_ret
    exact ⟨rfl, by repeat (first | exact Below.refl _ _ | refine below_al _ ?_ (Nat.le_refl _))⟩
theorem row1 (b : Int) (h : 0 ≤ b ∧ b ≤ 6) : ([Value.int .i64 0, Value.int .i64 1, Value.int .i64 2, Value.int .i64 0, Value.int .i64 0, Value.int .i64 0, Value.int .i64 0] : List Value)[b.toNat]? = some (.int .i64 (derI 1 b)) := by
  rcases int7 h with rfl | rfl | rfl | rfl | rfl | rfl | rfl <;> rfl
set_option maxHeartbeats 2000000 in
theorem refDerive_1 (b : Int) (h : 0 ≤ b ∧ b ≤ 6) (w : World) :
    Calls Tryd.prog 32 #[.int .i64 1, .int .i64 b] w fun e w' => e = .returned (.int .i64 (derI 1 b)) ∧ Below w.heap.size w w' := by
  have hrow := row1 b h
  obtain ⟨hb1, hb2⟩ := h
  go_enter Tryd.func32, Tryd.ntmps32
  go_wp2
  all_goals try (exfalso; omega)
  all_goals
    go_ret
    exact ⟨rfl, by repeat (first | exact Below.refl _ _ | refine below_al _ ?_ (Nat.le_refl _))⟩
theorem row2 (b : Int) (h : 0 ≤ b ∧ b ≤ 6) : ([Value.int .i64 0, Value.int .i64 2, Value.int .i64 2, Value.int .i64 0, Value.int .i64 0, Value.int .i64 0, Value.int .i64 0] : List Value)[b.toNat]? = some (.int .i64 (derI 2 b)) := by
  rcases int7 h with rfl | rfl | rfl | rfl | rfl | rfl | rfl <;> rfl
set_option maxHeartbeats 2000000 in
theorem refDerive_2 (b : Int) (h : 0 ≤ b ∧ b ≤ 6) (w : World) :
    Calls Tryd.prog 32 #[.int .i64 2, .int .i64 b] w fun e w' => e = .returned (.int .i64 (derI 2 b)) ∧ Below w.heap.size w w' := by
  have hrow := row2 b h
  obtain ⟨hb1, hb2⟩ := h
  go_enter Tryd.func32, Tryd.ntmps32
  go_wp2
  all_goals try (exfalso; omega)
  all_goals
    go_ret
    exact ⟨rfl, by repeat (first | exact Below.refl _ _ | refine below_al _ ?_ (Nat.le_refl _))⟩
theorem row3 (b : Int) (h : 0 ≤ b ∧ b ≤ 6) : ([Value.int .i64 0, Value.int .i64 3, Value.int .i64 3, Value.int .i64 0, Value.int .i64 0, Value.int .i64 0, Value.int .i64 0] : List Value)[b.toNat]? = some (.int .i64 (derI 3 b)) := by
  rcases int7 h with rfl | rfl | rfl | rfl | rfl | rfl | rfl <;> rfl
set_option maxHeartbeats 2000000 in
theorem refDerive_3 (b : Int) (h : 0 ≤ b ∧ b ≤ 6) (w : World) :
    Calls Tryd.prog 32 #[.int .i64 3, .int .i64 b] w fun e w' => e = .returned (.int .i64 (derI 3 b)) ∧ Below w.heap.size w w' := by
  have hrow := row3 b h
  obtain ⟨hb1, hb2⟩ := h
  go_enter Tryd.func32, Tryd.ntmps32
  go_wp2
  all_goals try (exfalso; omega)
  all_goals
    go_ret
    exact ⟨rfl, by repeat (first | exact Below.refl _ _ | refine below_al _ ?_ (Nat.le_refl _))⟩
theorem row4 (b : Int) (h : 0 ≤ b ∧ b ≤ 6) : ([Value.int .i64 0, Value.int .i64 0, Value.int .i64 0, Value.int .i64 0, Value.int .i64 0, Value.int .i64 0, Value.int .i64 0] : List Value)[b.toNat]? = some (.int .i64 (derI 4 b)) := by
  rcases int7 h with rfl | rfl | rfl | rfl | rfl | rfl | rfl <;> rfl
set_option maxHeartbeats 2000000 in
theorem refDerive_4 (b : Int) (h : 0 ≤ b ∧ b ≤ 6) (w : World) :
    Calls Tryd.prog 32 #[.int .i64 4, .int .i64 b] w fun e w' => e = .returned (.int .i64 (derI 4 b)) ∧ Below w.heap.size w w' := by
  have hrow := row4 b h
  obtain ⟨hb1, hb2⟩ := h
  go_enter Tryd.func32, Tryd.ntmps32
  go_wp2
  all_goals try (exfalso; omega)
  all_goals
    go_ret
    exact ⟨rfl, by repeat (first | exact Below.refl _ _ | refine below_al _ ?_ (Nat.le_refl _))⟩
theorem row5 (b : Int) (h : 0 ≤ b ∧ b ≤ 6) : ([Value.int .i64 0, Value.int .i64 5, Value.int .i64 5, Value.int .i64 0, Value.int .i64 0, Value.int .i64 0, Value.int .i64 0] : List Value)[b.toNat]? = some (.int .i64 (derI 5 b)) := by
  rcases int7 h with rfl | rfl | rfl | rfl | rfl | rfl | rfl <;> rfl
set_option maxHeartbeats 2000000 in
theorem refDerive_5 (b : Int) (h : 0 ≤ b ∧ b ≤ 6) (w : World) :
    Calls Tryd.prog 32 #[.int .i64 5, .int .i64 b] w fun e w' => e = .returned (.int .i64 (derI 5 b)) ∧ Below w.heap.size w w' := by
  have hrow := row5 b h
  obtain ⟨hb1, hb2⟩ := h
  go_enter Tryd.func32, Tryd.ntmps32
  go_wp2
  all_goals try (exfalso; omega)
  all_goals
    go_ret
    exact ⟨rfl, by repeat (first | exact Below.refl _ _ | refine below_al _ ?_ (Nat.le_refl _))⟩
theorem row6 (b : Int) (h : 0 ≤ b ∧ b ≤ 6) : ([Value.int .i64 0, Value.int .i64 0, Value.int .i64 0, Value.int .i64 0, Value.int .i64 0, Value.int .i64 0, Value.int .i64 0] : List Value)[b.toNat]? = some (.int .i64 (derI 6 b)) := by
  rcases int7 h with rfl | rfl | rfl | rfl | rfl | rfl | rfl <;> rfl
set_option maxHeartbeats 2000000 in
theorem refDerive_6 (b : Int) (h : 0 ≤ b ∧ b ≤ 6) (w : World) :
    Calls Tryd.prog 32 #[.int .i64 6, .int .i64 b] w fun e w' => e = .returned (.int .i64 (derI 6 b)) ∧ Below w.heap.size w w' := by
  have hrow := row6 b h
  obtain ⟨hb1, hb2⟩ := h
  go_enter Tryd.func32, Tryd.ntmps32
  go_wp2
  all_goals try (exfalso; omega)
  all_goals
    go_ret
    exact ⟨rfl, by repeat (first | exact Below.refl _ _ | refine below_al _ ?_ (Nat.le_refl _))⟩
theorem refDerive_any (a b : Int) (w : World) :
    Calls Tryd.prog 32 #[.int .i64 a, .int .i64 b] w fun e w' => e = .returned (.int .i64 (derI a b)) ∧ Below w.heap.size w w' := by
  by_cases h : (0 ≤ a ∧ a ≤ 6) ∧ 0 ≤ b ∧ b ≤ 6
  · obtain ⟨h1, h2⟩ := h
    rcases int7 h1 with rfl | rfl | rfl | rfl | rfl | rfl | rfl
    · exact refDerive_0 b h2 w
    · exact refDerive_1 b h2 w
    · exact refDerive_2 b h2 w
    · exact refDerive_3 b h2 w
    · exact refDerive_4 b h2 w
    · exact refDerive_5 b h2 w
    · exact refDerive_6 b h2 w
  · have hd : derI a b = 0 := by unfold derI; repeat (first | omega | split)
    rw [hd]
    go_enter Tryd.func32, Tryd.ntmps32
    go_wp2
    all_goals first
      | (go_ret; exact ⟨rfl, Below.refl _ _⟩)
      | (exfalso; omega)
theorem refWider_any (a b : Int) (w : World) :
    Calls Tryd.prog 34 #[.int .i64 a, .int .i64 b] w fun e w' => e = .returned (.int .i64 (widerI a b)) ∧ w' = w := by
  go_enter Tryd.func34, Tryd.ntmps34
  go_wp2
  refine wp_loop_rounds 6 ?_
  rw [rounds_succ]
  go_wp2
  any_goals (rw [rounds_succ]; go_wp2)
  any_goals (rw [rounds_succ]; go_wp2)
  any_goals (rw [rounds_succ]; go_wp2)
  any_goals (rw [rounds_succ]; go_wp2)
  any_goals (rw [rounds_succ]; go_wp2)
  all_goals (go_ret; refine ⟨ret_int ?_, rfl⟩; unfold widerI widI; simp_all; try (repeat (first | omega | split)))
set_option maxHeartbeats 2000000 in
theorem refVisible_0 (a : Int) (w : World) :
    Calls Tryd.prog 36 #[.int .i64 a, .int .i64 0] w fun e w' => e = .returned (.bool (visB a 0)) ∧ Below w.heap.size w w' := by
  go_enter Tryd.func36, Tryd.ntmps36
  go_wp2
  refine wp_loop_rounds 1 ?_
  rw [rounds_succ]
  go_wp2
  all_goals go_ret
  all_goals refine ⟨ret_bool ?_, by repeat (first | exact Below.refl _ _ | refine below_al _ ?_ (Nat.le_refl _))⟩
  all_goals unfold visB
  all_goals first | (simp_all; done) | (simp_all; omega)
set_option maxHeartbeats 2000000 in
theorem refVisible_1 (a : Int) (w : World) :
    Calls Tryd.prog 36 #[.int .i64 a, .int .i64 1] w fun e w' => e = .returned (.bool (visB a 1)) ∧ Below w.heap.size w w' := by
  go_enter Tryd.func36, Tryd.ntmps36
  go_wp2
  refine wp_loop_rounds 4 ?_
  rw [rounds_succ]
  go_wp2
  try any_goals (rw [rounds_succ]; go_wp2)
  try any_goals (rw [rounds_succ]; go_wp2)
  try any_goals (rw [rounds_succ]; go_wp2)
  all_goals go_ret
  all_goals refine ⟨ret_bool ?_, by repeat (first | exact Below.refl _ _ | refine below_al _ ?_ (Nat.le_refl _))⟩
  all_goals unfold visB
  all_goals first | (simp_all; done) | (simp_all; omega)
set_option maxHeartbeats 2000000 in
theorem refVisible_2 (a : Int) (w : World) :
    Calls Tryd.prog 36 #[.int .i64 a, .int .i64 2] w fun e w' => e = .returned (.bool (visB a 2)) ∧ Below w.heap.size w w' := by
  go_enter Tryd.func36, Tryd.ntmps36
  go_wp2
  refine wp_loop_rounds 3 ?_
  rw [rounds_succ]
  go_wp2
  try any_goals (rw [rounds_succ]; go_wp2)
  try any_goals (rw [rounds_succ]; go_wp2)
  all_goals go_ret
  all_goals refine ⟨ret_bool ?_, by repeat (first | exact Below.refl _ _ | refine below_al _ ?_ (Nat.le_refl _))⟩
  all_goals unfold visB
  all_goals first | (simp_all; done) | (simp_all; omega)
set_option maxHeartbeats 2000000 in
theorem refVisible_3 (a : Int) (w : World) :
    Calls Tryd.prog 36 #[.int .i64 a, .int .i64 3] w fun e w' => e = .returned (.bool (visB a 3)) ∧ Below w.heap.size w w' := by
  go_enter Tryd.func36, Tryd.ntmps36
  go_wp2
  refine wp_loop_rounds 3 ?_
  rw [rounds_succ]
  go_wp2
  try any_goals (rw [rounds_succ]; go_wp2)
  try any_goals (rw [rounds_succ]; go_wp2)
  all_goals go_ret
  all_goals refine ⟨ret_bool ?_, by repeat (first | exact Below.refl _ _ | refine below_al _ ?_ (Nat.le_refl _))⟩
  all_goals unfold visB
  all_goals first | (simp_all; done) | (simp_all; omega)
set_option maxHeartbeats 2000000 in
theorem refVisible_4 (a : Int) (w : World) :
    Calls Tryd.prog 36 #[.int .i64 a, .int .i64 4] w fun e w' => e = .returned (.bool (visB a 4)) ∧ Below w.heap.size w w' := by
  go_enter Tryd.func36, Tryd.ntmps36
  go_wp2
  refine wp_loop_rounds 2 ?_
  rw [rounds_succ]
  go_wp2
  try any_goals (rw [rounds_succ]; go_wp2)
  all_goals go_ret
  all_goals refine ⟨ret_bool ?_, by repeat (first | exact Below.refl _ _ | refine below_al _ ?_ (Nat.le_refl _))⟩
  all_goals unfold visB
  all_goals first | (simp_all; done) | (simp_all; omega)
set_option maxHeartbeats 2000000 in
theorem refVisible_5 (a : Int) (w : World) :
    Calls Tryd.prog 36 #[.int .i64 a, .int .i64 5] w fun e w' => e = .returned (.bool (visB a 5)) ∧ Below w.heap.size w w' := by
  go_enter Tryd.func36, Tryd.ntmps36
  go_wp2
  refine wp_loop_rounds 6 ?_
  rw [rounds_succ]
  go_wp2
  try any_goals (rw [rounds_succ]; go_wp2)
  try any_goals (rw [rounds_succ]; go_wp2)
  try any_goals (rw [rounds_succ]; go_wp2)
  try any_goals (rw [rounds_succ]; go_wp2)
  try any_goals (rw [rounds_succ]; go_wp2)
  all_goals go_ret
  all_goals refine ⟨ret_bool ?_, by repeat (first | exact Below.refl _ _ | refine below_al _ ?_ (Nat.le_refl _))⟩
  all_goals unfold visB
  all_goals first | (simp_all; done) | (simp_all; omega)
theorem refVisible_any (a p : Int) (w : World) :
    Calls Tryd.prog 36 #[.int .i64 a, .int .i64 p] w fun e w' => e = .returned (.bool (visB a p)) ∧ Below w.heap.size w w' := by
  by_cases h : 0 ≤ p ∧ p ≤ 5
  · have h5 : p = 0 ∨ p = 1 ∨ p = 2 ∨ p = 3 ∨ p = 4 ∨ p = 5 := by omega
    rcases h5 with rfl | rfl | rfl | rfl | rfl | rfl
    · exact refVisible_0 a w
    · exact refVisible_1 a w
    · exact refVisible_2 a w
    · exact refVisible_3 a w
    · exact refVisible_4 a w
    · exact refVisible_5 a w

  · have hd : visB a p = false := by
      unfold visB
      rw [if_neg (by omega), if_neg (by omega), if_neg (by omega), if_neg (by omega), if_neg (by omega)]
    rw [hd]
    go_enter Tryd.func36, Tryd.ntmps36
    go_wp2
    all_goals first
      | (go_ret; exact ⟨rfl, by repeat (first | exact Below.refl _ _ | refine below_al _ ?_ (Nat.le_refl _))⟩)
      | (exfalso; omega)
end Go.Proofs.YtinhedegbaegnaaDoor
