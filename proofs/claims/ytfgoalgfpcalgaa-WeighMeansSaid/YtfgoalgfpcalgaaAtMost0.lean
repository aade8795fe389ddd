/-
  Layer 21: the contract of weigh.AtMost where k is 0. Own work.
-/
import Derived.Test.YtfgoalgfpcalgaaAtMostLem
import Derived.RegionTactic
namespace Go.Proofs.Ytfgoalgfpcalgaa
set_option linter.unusedVariables false
set_option linter.unusedSimpArgs false
open Go.RowKit

def none0 (x : List Int) : List (List Int) := x.map fun n => [-n]
theorem none0_snoc (x : List Int) (k : Nat) (n : Int) (h : x[k]? = some n) : none0 (x.take (k + 1)) = none0 (x.take k) ++ [[-n]] := by
  unfold none0
  rw [take_snoc _ k n h, List.map_append]; rfl
def Rel0 (w : World) (lb loff : Nat) (x : List Int) (k next : Int) (i : Value) (wr : World) : Prop :=
  ∃ (m : Nat) (cs : List (List Int)), m ≤ x.length ∧ i = .int .i64 m ∧ cs = none0 (x.take m) ∧ cs.length = m ∧ AM w lb loff x k next cs wr
def AmPost0 (x : List Int) (next : Int) (w : World) (e : Ending) (w' : World) : Prop :=
  ∃ v, e = .returned (.tuple #[v, .int .i64 next]) ∧ RowsAt w' w.heap.size v (none0 x) ∧ Below w.heap.size w w'
set_option maxRecDepth 100000 in
set_option maxHeartbeats 4000000 in
theorem AtMost_zero' (lv : Value) (x : List Int) (k next : Int) (hk0 : 0 ≤ k) (hk1 : k ≤ 0) (hkb : (k == 0) = true) (hx1 : 1 ≤ x.length) (hx60 : x.length ≤ 60) (hx : ∀ (j : Nat) (n : Int), x[j]? = some n → -1000000 ≤ n ∧ n ≤ 1000000) (hn0 : 0 ≤ next) (hn1 : next ≤ 200000) (w : World) (hl : SlOf w iV lv x) :
    Calls Try.prog 8 #[lv, .int .i64 k, .int .i64 next] w (AmPost0 x next w) := by
  obtain ⟨la, lcap, rfl, hl1, hl2, hlc⟩ := hl
  obtain ⟨x0, hx0⟩ : ∃ n, x[0]? = some n := ⟨_, List.getElem?_eq_getElem (by omega)⟩
  obtain ⟨lb, loff, rfl, hlb, -⟩ := hlc 0 x0 hx0
  have hcell : ∀ (j : Nat) (n : Int), x[j]? = some n → w.cell? ⟨lb, loff + j, none⟩ = some (.int .i64 n) := fun j n hj => by
    obtain ⟨b, off, h, -, hc⟩ := hlc j n hj
    cases h
    exact hc
  clear hlc
  have hst := AM_start (k := k) (next := next) hlb hcell
  have hX := Lib.hid hx; clear hx
  clear hx0 hcell
  have hln : (x.length : Int) ≤ 60 := by omega
  have hln1 : (1 : Int) ≤ x.length := by omega
  go_enter Try.func8, Try.ntmps8
  go_wp2_with fail
  generalize (((w.alloc (Obj.cells #[Value.int .i64 k] 3)).alloc (Obj.cells #[Value.int .i64 next] 3)).alloc (Obj.cells #[Value.slice none 0 0] 25)) = w0 at hst ⊢
  go_loopw [36] (fun i wr => Rel0 w lb loff x k next i wr) (fun i _ => x.length - (intOf i).toNat)
  case atStart => exact ⟨0, [], by omega, rfl, by simp [none0], rfl, hst⟩
  case round =>
    obtain ⟨m, cs, hm, rfl, hcs, hlen, ham⟩ := hrel
    by_cases hlt : m < x.length
    · obtain ⟨n, hn⟩ : ∃ n, x[m]? = some n := ⟨_, List.getElem?_eq_getElem hlt⟩
      have hci := ham.2.2.2.2.1 m n hn
      obtain ⟨n1, n2⟩ := hX.out m n hn
      have HS := Lib.hid (none0_snoc x m n hn)
      have HCS := Lib.hid hcs; clear hcs hn
      have HL := Lib.hid hlen
      have hl9 : cs.length ≤ 1000000 := by omega
      clear hlen
      go_wp2_with (go_at_call 16; with_reducible refine (AM_add1 (by assumption) _ hl9).mono ?_; rintro e w1 ⟨rfl, ham1⟩)
      go_roundw
      case rel => exact ⟨m + 1, cs ++ [[-n]], by omega, by go_num, by rw [HS.out, ← HCS.out], by simp [HL.out], by assumption⟩
      case measure => simp [intOf]; omega
    · have hml : m = x.length := by omega
      have htk : x.take m = x := List.take_of_length_le (by omega)
      rw [htk] at hcs
      have HCS := Lib.hid hcs
      obtain ⟨v, hv, hrows⟩ := ham.2.2.2.1
      have hv0 : wr.cell? ⟨w.heap.size + 1 + 1, 0, none⟩ = some v := by rw [cell_of_row wr _ 0 _ _ (0, 0) hv]; rfl
      have hvf : wr.frozen? ⟨w.heap.size + 1 + 1, 0, none⟩ = false := frozen_of_row wr _ 0 _ _ hv
      have hnx := ham.2.2.1
      have hfin := fin_most ham hv hrows
      have HFIN := Lib.hid hfin
      obtain ⟨ch, nch, cch, rfl⟩ := rows_slice hrows
      clear hfin hv ham hrows htk hcs
      have HML := Lib.hid hml; clear hml hlen
      go_wp2_with fail
      go_region
      all_goals go_wp2
      all_goals
        refine bodyPost_ret (v := .tuple #[.slice ch nch cch, .int .i64 next]) (by simp [results, Try.results8, go_sem, *]) rfl ?_
        exact ⟨_, rfl, by rw [← HCS.out]; exact HFIN.out.1, HFIN.out.2⟩
theorem AtMost_zero (lv : Value) (x : List Int) (next : Int) (hx1 : 1 ≤ x.length) (hx60 : x.length ≤ 60) (hx : ∀ (j : Nat) (n : Int), x[j]? = some n → -1000000 ≤ n ∧ n ≤ 1000000) (hn0 : 0 ≤ next) (hn1 : next ≤ 200000) (w : World) (hl : SlOf w iV lv x) :
    Calls Try.prog 8 #[lv, .int .i64 0, .int .i64 next] w (AmPost0 x next w) :=
  AtMost_zero' lv x 0 next (by omega) (by omega) rfl hx1 hx60 hx hn0 hn1 w hl
end Go.Proofs.Ytfgoalgfpcalgaa
