/-
  Layer 21: contracts of own, of the answer's True, of weigh.Count. Own work.
-/
import Derived.Test.YtlcbfahaapodmaaClauses
import Derived.IntWalk
namespace Go.Proofs.Ytlcbfahaapodmaa
set_option linter.unusedVariables false
set_option linter.unusedSimpArgs false
open Go.RowKit

theorem add_block (a : Addr) (j : Nat) : (a.add j).block = a.block := by unfold Addr.add; split <;> rfl
/-- v is a slice that came in and reads as l -/
def Reads {α : Type} (w : World) (f : α → Value) (v : Value) (l : List α) : Prop :=
  (v = .slice none 0 0 ∧ l = []) ∨ ∃ a cap, v = .slice (some a) l.length cap ∧ l.length ≤ cap ∧ cap ≤ 9223372036854775807 ∧ ∀ (j : Nat) n, l[j]? = some n → w.cell? (a.add j) = some (f n)
theorem Reads.below {α : Type} {w w' : World} {f : α → Value} {v : Value} {l : List α} {B : Nat} (h : Reads w f v l) (hb : Below B w w') (hB : w.heap.size ≤ B) : Reads w' f v l := by
  rcases h with h | ⟨a, cap, h1, h2, h3, h5⟩
  · exact .inl h
  · exact .inr ⟨a, cap, h1, h2, h3, fun j n hj => (hb.cell (Nat.lt_of_lt_of_le (World.block_lt_of_cell? w _ (h5 j n hj)) hB)).trans (h5 j n hj)⟩

/-- is the literal n true? (the i-th truth is the i+1-th variable's) -/
def trueFrom (n : Int) : Nat → List Bool → Bool
  | _, [] => decide (n < 0)
  | i, t :: r => if n = (i : Int) + 1 then t else if n = -((i : Int) + 1) then !t else trueFrom n (i + 1) r
def trueB (n : Int) (ts : List Bool) : Bool := trueFrom n 0 ts
def bV (b : Bool) : Value := .bool b
set_option maxHeartbeats 1000000 in
theorem True_any (n : Int) (tv : Value) (ts : List Bool) (w : World) (hl : Reads w bV tv ts) :
    Calls Try.prog 21 #[.int .i64 n, tv] w fun e w' => e = .returned (.bool (trueB n ts)) ∧ w = w' := by
  rcases hl with ⟨rfl, rfl⟩ | ⟨a, cap, rfl, hl1, hl2, hcell⟩
  · go_enter Try.func21, Try.ntmps21
    go_wp2_with fail
    go_loop [9] (fun i => i = .int .i64 0) (fun _ => 0)
    case atStart => rfl
    case round =>
      obtain rfl := hrel
      go_wp2
      go_ret
      exact ⟨rfl, rfl⟩
  · have HC := Lib.hid hcell; clear hcell
    have hlb : (ts.length : Int) ≤ 9223372036854775807 := by omega
    go_enter Try.func21, Try.ntmps21
    go_wp2_with fail
    go_loop [9] (fun i => ∃ k : Nat, k ≤ ts.length ∧ i = .int .i64 k ∧ trueB n ts = trueFrom n k (ts.drop k)) (fun i => ts.length - (intOf i).toNat)
    case atStart => exact ⟨0, by omega, rfl, rfl⟩
    case round =>
      obtain ⟨k, hk, rfl, hr⟩ := hrel
      by_cases hlt : k < ts.length
      · obtain ⟨t, ht⟩ : ∃ t, ts[k]? = some t := ⟨_, List.getElem?_eq_getElem hlt⟩
        have hci : w.cell? (a.add k) = some (.bool t) := HC.out k t ht
        have hd : ts.drop k = t :: ts.drop (k + 1) := by
          rw [List.drop_eq_getElem_cons hlt]
          congr 1
          have := (List.getElem?_eq_some_iff.1 ht).2
          exact this
        rw [hd, trueFrom] at hr
        have hlt' : (k : Int) < ts.length := by omega
        have HD := Lib.hid hd; clear hd
        have HT := Lib.hid ht; clear ht
        by_cases e1 : n = (k : Int) + 1
        · rw [if_pos e1] at hr
          have HR := Lib.hid hr; clear hr
          have b1 : (n == (k : Int) + 1) = true := by simp [e1]
          have HE1 := Lib.hid e1; clear e1
          go_wp2
          go_ret
          exact ⟨ret_bool HR.out.symm, rfl⟩
        rw [if_neg e1] at hr
        have b1 : (n == (k : Int) + 1) = false := by simp [e1]
        by_cases e2 : n = -((k : Int) + 1)
        · rw [if_pos e2] at hr
          have HR := Lib.hid hr; clear hr
          have b2 : (n == -((k : Int) + 1)) = true := by simp [e2]
          have HE1 := Lib.hid e1; clear e1
          have HE2 := Lib.hid e2; clear e2
          go_wp2
          go_ret
          exact ⟨ret_bool HR.out.symm, rfl⟩
        rw [if_neg e2] at hr
        have HR := Lib.hid hr; clear hr
        have b2 : (n == -((k : Int) + 1)) = false := by simp [e2]
        have HE1 := Lib.hid e1; clear e1
        have HE2 := Lib.hid e2; clear e2
        go_wp2
        exact ⟨⟨k + 1, by omega, by go_num, HR.out⟩, by simp [intOf]; omega⟩
      · have hkl : k = ts.length := by omega
        rw [List.drop_of_length_le (by omega), trueFrom] at hr
        have HR := Lib.hid hr; clear hr
        have HKL := Lib.hid hkl; clear hkl
        go_wp2
        go_ret
        exact ⟨ret_bool HR.out.symm, rfl⟩

theorem trueFrom_pos (n : Int) : ∀ (ts : List Bool) (i : Nat), (i : Int) + 1 ≤ n → trueFrom n i ts = ts.getD (n - 1 - i).toNat false
  | [], i, h => by
    unfold trueFrom
    simp; omega
  | t :: r, i, h => by
    unfold trueFrom
    by_cases e : n = (i : Int) + 1
    · rw [if_pos e, show (n - 1 - (i : Int)).toNat = 0 by omega]; rfl
    · rw [if_neg e, if_neg (by omega), trueFrom_pos n r (i + 1) (by omega), show (n - 1 - (i : Int)).toNat = (n - 1 - ((i + 1 : Nat) : Int)).toNat + 1 by omega]
      rfl
theorem trueFrom_neg (n : Int) : ∀ (ts : List Bool) (i : Nat), n ≤ -((i : Int) + 1) → trueFrom n i ts = !(ts.getD (-n - 1 - i).toNat false)
  | [], i, h => by
    unfold trueFrom
    simp; omega
  | t :: r, i, h => by
    unfold trueFrom
    by_cases e : n = -((i : Int) + 1)
    · rw [if_neg (by omega), if_pos e, show (-n - 1 - (i : Int)).toNat = 0 by omega]; rfl
    · rw [if_neg (by omega), if_neg e, trueFrom_neg n r (i + 1) (by omega), show (-n - 1 - (i : Int)).toNat = (-n - 1 - ((i + 1 : Nat) : Int)).toNat + 1 by omega]
      rfl
theorem trueB_pos (n : Int) (ts : List Bool) (h : 1 ≤ n) : trueB n ts = ts.getD (n - 1).toNat false := by
  unfold trueB
  rw [trueFrom_pos n ts 0 (by omega)]
  congr 2; omega
theorem trueB_neg (n : Int) (ts : List Bool) (h : n ≤ -1) : trueB n ts = !(ts.getD (-n - 1).toNat false) := by
  unfold trueB
  rw [trueFrom_neg n ts 0 (by omega)]
  congr 3; omega
def cntL (ts : List Bool) (xs : List Int) : Int := ((xs.filter fun n => trueB n ts).length : Nat)
theorem cntL_bd (ts : List Bool) (xs : List Int) : 0 ≤ cntL ts xs ∧ cntL ts xs ≤ xs.length := by
  unfold cntL
  have := List.length_filter_le (fun n => trueB n ts) xs
  omega
theorem cntL_snoc (ts : List Bool) (xs : List Int) (k : Nat) (n : Int) (h : xs[k]? = some n) : cntL ts (xs.take (k + 1)) = cntL ts (xs.take k) + if trueB n ts = true then 1 else 0 := by
  unfold cntL
  rw [take_snoc _ k n h, List.filter_append]
  by_cases hb : trueB n ts = true
  · simp [List.filter_cons, hb]
  · simp [List.filter_cons, hb]
end Go.Proofs.Ytlcbfahaapodmaa
