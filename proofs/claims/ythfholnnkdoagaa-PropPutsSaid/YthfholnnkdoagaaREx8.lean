/-
  Layer 8: the answer's Expand. Own work.
-/
import Derived.Test.YthfholnnkdoagaaRVl8
namespace Go.Proofs.Ythfholnnkdoagaa
set_option linter.unusedVariables false
set_option linter.unusedSimpArgs false
open Go.RowKit

def RExP (B R : Nat) (L : List Pp) (vL : Value) (vd vo : Value) (x : Xp) (w : World) (e : Ending) (w' : World) : Prop :=
  e = .returned (expV x) ∧ ∃ (bad : Int) (nm : List UInt8) (ways : List (List UInt8)) (vd' vo' : Value), RT8 B R L vL bad nm ways x.D vd' vo' w' ∧ Mw R vd vo w w' vd' vo'
set_option maxHeartbeats 4000000 in
set_option maxRecDepth 100000 in
theorem rexpand8_any (B R : Nat) (L : List Pp) (vL : Value) (hLl : L.length ≤ 1000) (hL : ∀ p ∈ L, p.2.length ≤ 1000) (bad : Int) (nm : List UInt8) (ways : List (List UInt8)) (D : List Pp) (vd vo : Value) (w : World) (s : List UInt8) (hs : s.length ≤ 100000) (hq : Q8 L [] D) (ht : RT8 B R L vL bad nm ways D vd vo w) :
    Calls Try.prog 24 #[.pointer (some ⟨R, 0, none⟩), .string (str s)] w (RExP B R L vL vd vo (expandM8 L s D) w) := by
  obtain ⟨p1, p2⟩ := ht.fails 0 []
  have hs1 : (w.setCell ⟨R, 2, none⟩ (.int .i64 0)).heap[R]? = _ := (ht.set (j := 2) (u := .int .i64 0) rfl).1
  obtain ⟨q1, q2⟩ := p1.opens (w5 := (w.setCell ⟨R, 2, none⟩ (.int .i64 0)).setCell ⟨R, 3, none⟩ (.string (str []))) (vo5 := .slice none 0 0) (ways5 := []) (World.ownsRow_nil _ _ _ _) (World.grownBy.refl _ _) (.inr fun k hk => by simp [Value.ownBlock] at hk)
  have c2 : w.cell? ⟨R, 2, none⟩ = some (.int .i64 bad) := by rw [cell_of_row _ _ 2 _ _ (0, 0) ht.tab]; rfl
  have c3 : w.cell? ⟨R, 3, none⟩ = some (.string (str nm)) := by rw [cell_of_row _ _ 3 _ _ (0, 0) ht.tab]; rfl
  have c5 : w.cell? ⟨R, 5, none⟩ = some vo := by rw [cell_of_row _ _ 5 _ _ (0, 0) ht.tab]; rfl
  have f2 := frozen_of_row w R 2 _ _ ht.tab
  have f3 := frozen_of_row w R 3 _ _ ht.tab
  have f5 := frozen_of_row w R 5 _ _ ht.tab
  obtain ⟨w1, hw1⟩ : ∃ w1, w1 = ((w.setCell ⟨R, 2, none⟩ (.int .i64 0)).setCell ⟨R, 3, none⟩ (.string (str []))).setCell ⟨R, 5, none⟩ (.slice none 0 0) := ⟨_, rfl⟩
  rw [← hw1] at q1 q2
  have hstr : str [] = ⟨#[]⟩ := rfl
  rw [hstr] at hw1
  have HW1 := Lib.hid hw1
  have HT1 := Lib.hid q1
  have HM1 := Lib.hid (p2.trans q2)
  have HP := Lib.hid (rtext8_top B R L vL hLl hL D [] vd (.slice none 0 0) w1 s hs hq q1)
  generalize hX : expandM8 L s D = RES
  have HX := Lib.hid hX
  clear hX p1 p2 q1 q2 hs1 ht hw1 hq
  go_enter Try.func24, Try.ntmps24
  go_upto_region 4 with fail
  rw [← HW1.out]
  clear c2 c3 c5 f2 f3 f5 hstr
  go_wp2_with fail
  refine HP.out.mono ?_
  rintro e w2 hval
  rw [HX.out] at hval
  clear HP
  cases RES with
  | ok v D2 =>
    obtain ⟨rfl, vd2, vo2, h2, m2⟩ := hval
    have c2 : w2.cell? ⟨R, 2, none⟩ = some (.int .i64 0) := by rw [cell_of_row _ _ 2 _ _ (0, 0) h2.tab]; rfl
    have HF := Lib.hid (show RExP B R L vL vd vo (.ok v D2) w (.returned (expV (.ok v D2))) w2 from ⟨rfl, 0, [], [], vd2, vo2, h2, HM1.out.trans m2⟩)
    clear h2 m2
    go_wp2
    go_ret3
    exact HF.out
  | bad er n D2 =>
    obtain ⟨hz, sv, ways2, vd2, vo2, rfl, hsv, h2, m2⟩ := hval
    have c2 : w2.cell? ⟨R, 2, none⟩ = some (.int .i64 er) := by rw [cell_of_row _ _ 2 _ _ (0, 0) h2.tab]; rfl
    have c3 : w2.cell? ⟨R, 3, none⟩ = some (.string (str n)) := by rw [cell_of_row _ _ 3 _ _ (0, 0) h2.tab]; rfl
    have hz2 : (er == 0) = false := by rw [beq_eq_false_iff_ne]; exact hz
    have hz3 : (er != 0) = true := by rw [bne_iff_ne]; exact hz
    have HF := Lib.hid (show ∀ w', Below w2.heap.size w2 w' → RExP B R L vL vd vo (.bad er n D2) w (.returned (expV (.bad er n D2))) w' from fun w' hb => ⟨rfl, er, n, ways2, vd2, vo2, h2.far hb, HM1.out.trans (m2.trans (Mw.of_below hb))⟩)
    clear h2 m2
    go_upto_region 6 with fail
    first
    | (go_region; all_goals (go_wp2; go_ret3; exact HF.out _ (Below.refl _ _).drew))
    | (go_wp2; go_ret3; exact HF.out _ (Below.refl _ _))
end Go.Proofs.Ythfholnnkdoagaa
