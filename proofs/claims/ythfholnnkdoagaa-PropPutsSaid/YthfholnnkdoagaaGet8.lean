/-
  Layer 10: prop.Get. Own work.
-/
import Derived.Test.YthfholnnkdoagaaAt8
namespace Go.Proofs.Ythfholnnkdoagaa
set_option linter.unusedVariables false
set_option linter.unusedSimpArgs false
open Go.RowKit

def BoolQ2 (b : Bool) (w : World) (e : Ending) (w' : World) : Prop := e = .returned (.bool b) ∧ Below w.heap.size w w'
set_option maxRecDepth 100000 in
set_option maxHeartbeats 4000000 in
theorem isName_any (p : Pr) (t : ByteArray) (NB : Nat) (w : World) (hn : w.cell? ⟨NB, 0, none⟩ = some (.string t)) :
    Calls Try.prog 44 #[.agg #[.string p.n, .string p.v], .pointer (some ⟨NB, 0, none⟩)] w (BoolQ2 (eqS p.n t) w) := by
  obtain ⟨n, v⟩ := p
  dsimp only
  have hb0 : Below w.heap.size w (w.alloc (.cells #[.string n, .string v] 33)) := (Below.refl w.heap.size w).alloc (Nat.le_refl _) _
  have hnew := heap_alloc_new w (.cells #[.string n, .string v] 33)
  have hc := (hb0.cell (World.block_lt_of_cell? w _ hn)).trans hn
  have HB0 := Lib.hid hb0
  clear hb0 hn
  go_enter Try.func44, Try.ntmps44
  go_upto_region 1 with fail
  generalize w.alloc (.cells #[.string n, .string v] 33) = w1 at hnew hc HB0 ⊢
  generalize w.heap.size = D at hnew ⊢
  have x0 : w1.cell? ⟨D, 0, none⟩ = some (.string n) := by rw [cell_of_row w1 D 0 _ _ (0, 0) hnew]; rfl
  clear hnew
  have HQ := Lib.hid (show (n.toList == t.toList) = eqS n t from rfl)
  go_wp2
  go_ret
  exact ⟨rfl, HB0.out⟩
set_option maxRecDepth 100000 in
set_option maxHeartbeats 4000000 in
theorem Index_any (l : List Pr) (t : ByteArray) (va : Value) (NB : Nat) (w : World) (ha : RdPs w va l) (hn : w.cell? ⟨NB, 0, none⟩ = some (.string t)) :
    Calls Try.prog 43 #[va, .func (.func 44) #[] #[.pointer (some ⟨NB, 0, none⟩)]] w (AtP l t w) := by
  obtain ⟨aa, ac, rfl⟩ := RdSl.shape ha
  have hla := RdSl.len ha
  have hlaI : (l.length : Int) ≤ 9223372036854775807 := by omega
  have HA := Lib.hid ha
  have HN := Lib.hid hn
  clear ha hn
  go_enter Try.func43, Try.ntmps43
  go_wp2_with fail
  go_loopw [8] (fun i wr => ∃ k : Nat, k ≤ l.length ∧ i = .int .i64 k ∧ (∀ p ∈ l.take k, eqS p.n t = false) ∧ Below w.heap.size w wr) (fun i _ => l.length - (intOf i).toNat)
  case atStart => exact ⟨0, by omega, rfl, (fun p hp => by simp at hp), Below.refl _ _⟩
  case round =>
    obtain ⟨k, hk, rfl, hno, hbw⟩ := hrel
    have HNO := Lib.hid hno
    have HB := Lib.hid hbw
    clear hno
    by_cases hlt : k < l.length
    · obtain ⟨x, hx⟩ : ∃ x, l[k]? = some x := ⟨_, List.getElem?_eq_getElem hlt⟩
      obtain ⟨a1, e1, p0, p1⟩ := RdSl.elem (HA.out.below hbw (Nat.le_refl _)) hx
      subst e1
      have HX := Lib.hid hx
      have HOP := Lib.hid (isName_any x t NB wr ((hbw.cell (World.block_lt_of_cell? w _ HN.out)).trans HN.out))
      have hkI : (k : Int) < (l.length : Int) := by omega
      clear hbw hx
      go_wp2_with fail
      refine HOP.out.mono ?_
      rintro e w3 ⟨rfl, hb3⟩
      have HB3 := Lib.hid (HB.out.trans (hb3.mono HB.out.size))
      clear hb3 HOP
      generalize hq : eqS x.n t = q
      have HQ := Lib.hid hq
      clear hq
      cases q
      case true =>
        go_wp2
        go_ret
        exact ⟨ret_int (find_at HX.out HQ.out HNO.out).symm, HB3.out⟩
      case false =>
        go_wp2
        go_roundw
        case rel => exact ⟨k + 1, by omega, by go_num, (fun p hp => by
          rw [List.take_add_one, HX.out, List.mem_append] at hp
          rcases hp with hp | hp
          · exact HNO.out p hp
          · simp at hp; subst hp; exact HQ.out), HB3.out⟩
        case measure => simp [intOf]; omega
    · have hle : (l.length : Int) ≤ k := by omega
      have HN := Lib.hid (show ∀ p ∈ l, eqS p.n t = false by have := HNO.out; rw [List.take_of_length_le (by omega)] at this; exact this)
      clear hbw
      go_wp2
      go_ret
      exact ⟨ret_int (find_no HN.out).symm, HB.out⟩
set_option maxRecDepth 100000 in
set_option maxHeartbeats 4000000 in
theorem find_any (l : List Pr) (t : ByteArray) (va : Value) (w : World) (ha : RdPs w va l) :
    Calls Try.prog 31 #[va, .string t] w (AtP l t w) := by
  obtain ⟨aa, ac, rfl⟩ := RdSl.shape ha
  have hb0 : Below w.heap.size w (w.alloc (.cells #[.string t] 9)) := (Below.refl w.heap.size w).alloc (Nat.le_refl _) _
  have hnew := heap_alloc_new w (.cells #[.string t] 9)
  have HA := Lib.hid (ha.below hb0 (Nat.le_refl _))
  have HB0 := Lib.hid hb0
  clear ha hb0
  go_enter Try.func31, Try.ntmps31
  go_upto_region 1 with fail
  generalize w.alloc (.cells #[.string t] 9) = w1 at hnew HA HB0 ⊢
  generalize w.heap.size = D at hnew ⊢
  have HOP := Lib.hid (Index_any l t _ D w1 HA.out (by rw [cell_of_row w1 D 0 _ _ (0, 0) hnew]; rfl))
  clear hnew
  go_wp2_with fail
  refine HOP.out.mono ?_
  rintro e w3 ⟨rfl, hb3⟩
  have HB3 := Lib.hid (HB0.out.trans (hb3.mono HB0.out.size))
  clear hb3 HOP
  go_wp2
  go_ret
  exact ⟨rfl, HB3.out⟩
/-- the value of the first property of a name -/
def getL (l : List Pr) (t : ByteArray) : Option ByteArray := (l.findIdx? (fun p => eqS p.n t)).bind fun i => l[i]?.map (·.v)
def GetP (l : List Pr) (t : ByteArray) (w : World) (e : Ending) (w' : World) : Prop := e = .returned (.tuple #[.string ((getL l t).getD ⟨#[]⟩), .bool (getL l t).isSome]) ∧ Below w.heap.size w w'
set_option maxRecDepth 100000 in
set_option maxHeartbeats 4000000 in
theorem Get_any (l : List Pr) (t : ByteArray) (va : Value) (w : World) (ha : RdPs w va l) :
    Calls Try.prog 16 #[va, .string t] w (GetP l t w) := by
  obtain ⟨aa, ac, rfl⟩ := RdSl.shape ha
  have HOP := Lib.hid (find_any l t _ w ha)
  have HA := Lib.hid ha
  clear ha
  go_enter Try.func16, Try.ntmps16
  go_wp2_with fail
  refine HOP.out.mono ?_
  rintro e w3 ⟨rfl, hb3⟩
  have HB3 := Lib.hid hb3
  cases hf : l.findIdx? (fun p => eqS p.n t) with
  | none =>
    have hat : atI l t = -1 := by unfold atI; rw [hf]
    have HG := Lib.hid (show getL l t = none by unfold getL; rw [hf]; rfl)
    have hneg : ¬ (0 ≤ atI l t) := by omega
    clear hb3 HOP hf
    generalize atI l t = at0 at hneg ⊢
    clear hat
    go_wp2
    go_ret2
    exact ⟨by rw [HG.out]; rfl, HB3.out⟩
  | some i =>
    have hat : atI l t = (i : Nat) := by unfold atI; rw [hf]
    have hi : i < l.length := by
      have h1 := hf
      rw [List.findIdx?_eq_some_iff_getElem] at h1
      exact h1.1
    obtain ⟨x, hx⟩ : ∃ x, l[i]? = some x := ⟨_, List.getElem?_eq_getElem hi⟩
    have HG := Lib.hid (show getL l t = some x.v by unfold getL; rw [hf]; show l[i]?.map (·.v) = _; rw [hx]; rfl)
    obtain ⟨a1, e1, p0, p1⟩ := RdSl.elem (HA.out.below hb3 (Nat.le_refl _)) hx
    subst e1
    rw [hat]
    have hiI : (i : Int) < (l.length : Int) := by omega
    have hi0 : (0 : Int) ≤ (i : Int) := by omega
    clear hb3 HOP hf hx hat
    go_wp2
    go_ret2
    exact ⟨by rw [HG.out]; rfl, HB3.out⟩
end Go.Proofs.Ythfholnnkdoagaa
