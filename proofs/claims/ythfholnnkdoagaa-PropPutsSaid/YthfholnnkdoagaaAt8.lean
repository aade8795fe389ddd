/-
  Layer 10: where a property's name stands first (the answer's At). Own work.
-/
import Derived.Test.YthfholnnkdoagaaMem10
namespace Go.Proofs.Ythfholnnkdoagaa
set_option linter.unusedVariables false
set_option linter.unusedSimpArgs false
open Go.RowKit

/-- where a name stands first -/
def atI (l : List Pr) (n : ByteArray) : Int := match l.findIdx? (fun p => eqS p.n n) with
  | some i => i
  | none => -1
theorem find_no {l : List Pr} {n : ByteArray} (h : ∀ p ∈ l, eqS p.n n = false) : atI l n = -1 := by
  unfold atI
  rw [List.findIdx?_eq_none_iff.2 (fun p hp => by simpa using h p hp)]
theorem find_at {l : List Pr} {n : ByteArray} {k : Nat} {x : Pr} (hx : l[k]? = some x) (he : eqS x.n n = true) (h : ∀ p ∈ l.take k, eqS p.n n = false) : atI l n = k := by
  unfold atI
  have : l.findIdx? (fun p => eqS p.n n) = some k := by
    rw [List.findIdx?_eq_some_iff_getElem]
    have hk := (List.getElem?_eq_some_iff.1 hx).1
    refine ⟨hk, by rw [(List.getElem?_eq_some_iff.1 hx).2]; exact he, fun j hj => ?_⟩
    have := h l[j] (List.mem_take_iff_getElem.2 ⟨j, by omega, rfl⟩)
    simpa using this
  rw [this]
def AtP (l : List Pr) (n : ByteArray) (w : World) (e : Ending) (w' : World) : Prop := e = .returned (.int .i64 (atI l n)) ∧ Below w.heap.size w w'
theorem At_any (l : List Pr) (n : ByteArray) (va : Value) (w : World) (ha : RdPs w va l) :
    Calls Try.prog 17 #[va, .string n] w (AtP l n w) := by
  obtain ⟨aa, ac, rfl⟩ := RdSl.shape ha
  have hla := RdSl.len ha
  have hlaI : (l.length : Int) ≤ 9223372036854775807 := by omega
  have HA := Lib.hid ha
  clear ha
  go_enter Try.func17, Try.ntmps17
  go_wp2_with fail
  go_loopw [9] (fun i wr => ∃ k : Nat, k ≤ l.length ∧ i = .int .i64 k ∧ (∀ p ∈ l.take k, eqS p.n n = false) ∧ Below w.heap.size w wr) (fun i _ => l.length - (intOf i).toNat)
  case atStart => exact ⟨0, by omega, rfl, (fun p hp => by simp at hp), Below.refl _ _⟩
  case round =>
    obtain ⟨k, hk, rfl, hno, hbw⟩ := hrel
    have HNO := Lib.hid hno
    have HB := Lib.hid hbw
    clear hno
    by_cases hlt : k < l.length
    · obtain ⟨x, hx⟩ : ∃ x, l[k]? = some x := ⟨_, List.getElem?_eq_getElem hlt⟩
      obtain ⟨a1, e1, p0, p1⟩ := RdSl.elem (HA.out.below hbw (Nat.le_refl _)) hx
      subst e1
      have HX := Lib.hid hx
      have hbb : Below wr.heap.size wr (wr.alloc (.cells #[.string x.n, .string x.v] 33)) := (Below.refl _ _).alloc (Nat.le_refl _) _
      have hnew := heap_alloc_new wr (.cells #[.string x.n, .string x.v] 33)
      have HBB := Lib.hid (HB.out.trans (hbb.mono HB.out.size))
      clear hbw hbb hx
      go_upto_region 4 with fail
      generalize wr.alloc (.cells #[.string x.n, .string x.v] 33) = wb at hnew HBB ⊢
      generalize wr.heap.size = KB at hnew ⊢
      have r0 : wb.cell? ⟨KB, 0, none⟩ = some (.string x.n) := by rw [cell_of_row wb KB 0 _ _ (0, 0) hnew]; rfl
      clear hnew p0 p1
      by_cases hq : x.n = n
      · have HE := Lib.hid (show eqS x.n n = true from eqS_iff.2 hq)
        have hL : (x.n.toList == n.toList) = true := by rw [hq]; simp
        clear hq
        go_wp2
        go_ret
        exact ⟨ret_int (find_at HX.out HE.out HNO.out).symm, HBB.out⟩
      · have hL : ¬ x.n.toList = n.toList := fun h => hq (bytes_eq10 h)
        have HE := Lib.hid (show eqS x.n n = false by unfold eqS; simpa using hL)
        have hL2 : (x.n.toList == n.toList) = false := by simpa using hL
        clear hq
        go_wp2
        go_roundw
        case rel => exact ⟨k + 1, by omega, by go_num, (fun p hp => by
          rw [List.take_add_one, HX.out, List.mem_append] at hp
          rcases hp with hp | hp
          · exact HNO.out p hp
          · simp at hp; subst hp; exact HE.out), HBB.out⟩
        case measure => simp [intOf]; omega
    · have hle : (l.length : Int) ≤ k := by omega
      have HN := Lib.hid (show ∀ p ∈ l, eqS p.n n = false by have := HNO.out; rw [List.take_of_length_le (by omega)] at this; exact this)
      clear hbw
      go_wp2
      go_ret
      exact ⟨ret_int (find_no HN.out).symm, HB.out⟩
end Go.Proofs.Ythfholnnkdoagaa
