/-
  Layer 8: the contracts of prop.cut and of the answer's Ref. Own work.
-/
import Derived.Test.YthfholnnkdoagaaCut8
import Derived.Test.YthfholnnkdoagaaLaw
import Derived.Test.YthfholnnkdoagaaShelf
import Derived.Deep.Grids
import Derived.Deep.Cut
import Derived.Deep.RegionHeld3
import Derived.Lib.Hide
namespace Go.Proofs.Ythfholnnkdoagaa
set_option linter.unusedVariables false
set_option linter.unusedSimpArgs false
open Go.RowKit

theorem cutV (s sep : List UInt8) (w : World) (m : Int) (hs : s.length ≤ 1000000) (hm : w.cell? ⟨0, 0, none⟩ = some (.int .i64 m)) (k : ByteArray) (hk : k = str sep) :
    Calls Try.prog 42 #[.string (str s), .string k] w fun e w' => e = .returned (.tuple #[.string (str (Lib.cut s sep).1), .string (str (Lib.cut s sep).2.1), .bool (Lib.cut s sep).2.2]) ∧ ∃ n, w' = w.drewN n := by
  subst hk
  have h := Try.strings_Cut (str s) (str sep) m w (by rw [size_str]; omega) hm
  have e1 : ∀ l : List UInt8, (str l).data.toList = l := fun l => by simp [str]
  rw [e1, e1] at h
  exact h
theorem drewN_below {B : Nat} {a w : World} (h : Below B a w) (n : Nat) : Below B a (w.drewN n) := ⟨h.os, h.tape, h.output, h.size, h.block⟩
theorem cut_results (tmps : Array Value) (w : World) (a b c d : Value) (h2 : tmps.getD 2 undef = a) (h3 : tmps.getD 3 undef = b) (h4 : tmps.getD 4 undef = c) (h5 : tmps.getD 5 undef = d) :
    (results Try.f29 tmps).run Try.prog w = .ok (.tuple #[a, b, c, d]) w := by
  have h2' : tmps[2]?.getD undef = a := by simpa using h2
  have h3' : tmps[3]?.getD undef = b := by simpa using h3
  have h4' : tmps[4]?.getD undef = c := by simpa using h4
  have h5' : tmps[5]?.getD undef = d := by simpa using h5
  simp [results, Try.results29, h2', h3', h4', h5']
/-- the first reference -/
def CutP (s : List UInt8) (w : World) (e : Ending) (w' : World) : Prop :=
  (∃ n, w' = w.drewN n) ∧ match refM8 s with
  | some (a, n, r) => e = .returned (.tuple #[.string (str a), .string (str n), .string (str r), .bool true])
  | none => e = .returned (.tuple #[.string (str s), .string ⟨#[]⟩, .string ⟨#[]⟩, .bool false])
set_option maxHeartbeats 1000000 in
theorem cut8_any (s : List UInt8) (hs : s.length ≤ 1000000) (m : Int) (w : World) (hm : w.cell? ⟨0, 0, none⟩ = some (.int .i64 m)) : Calls Try.prog 29 #[.string (str s)] w (CutP s w) := by
  have HC := Lib.hid (cutV s [36, 123] w m hs hm ⟨#[36, 123]⟩ rfl)
  have HR := Lib.hid (ref_cut s)
  have hlen : (Lib.cut s [36, 123]).2.1.length ≤ s.length := by
    unfold Lib.cut
    split
    · show (List.drop _ _).length ≤ _; rw [List.length_drop]; omega
    · simp
  have HC2 := Lib.hid (fun k => cutV (Lib.cut s [36, 123]).2.1 [125] (w.drewN k) m (by omega) (by rw [← hm]; exact Below.cell (B := w.heap.size) (drewN_below (Below.refl _ _) k) (World.block_lt_of_cell? w _ hm)) ⟨#[125]⟩ rfl)
  have HL := Lib.hid (close_cut (Lib.cut s [36, 123]).2.1)
  clear hlen hm
  generalize Lib.cut s [36, 123] = C at HC HC2 HR HL
  obtain ⟨a, inn, b⟩ := C
  dsimp only at HC HC2 HR HL
  generalize Lib.cut inn [125] = D at HC2 HL
  obtain ⟨n, r, b2⟩ := D
  dsimp only at HC2 HL
  go_enter Try.func29, Try.ntmps29
  go_upto_region 1 with fail
  go_wp2_with fail
  refine HC.out.mono ?_
  rintro e w2 ⟨rfl, k, rfl⟩
  clear HC
  cases b with
  | false =>
    go_wp2_with fail
    refine bodyPost_ret (cut_results _ _ _ _ _ _ rfl rfl rfl rfl) rfl ?_
    refine ⟨⟨k, rfl⟩, ?_⟩
    rw [HR.out]
    rfl
  | true =>
    go_wp2_with fail
    refine (HC2.out k).mono ?_
    rintro e w3 ⟨rfl, k2, rfl⟩
    cases b2 with
    | false =>
      go_wp2_with fail
      refine bodyPost_ret (cut_results _ _ _ _ _ _ rfl rfl rfl rfl) rfl ?_
      refine ⟨⟨_, rfl⟩, ?_⟩
      rw [HR.out, HL.out]
      rfl
    | true =>
      go_wp2_with fail
      refine bodyPost_ret (cut_results _ _ _ _ _ _ rfl rfl rfl rfl) rfl ?_
      refine ⟨⟨_, rfl⟩, ?_⟩
      rw [HR.out, HL.out]
      rfl
/-! the answer's -/
theorem ref_step {c : UInt8} {s : List UInt8} (h : ¬ (c = 36 ∧ s.head? = some 123)) : refM8 (c :: s) = (refM8 s).map fun p => (c :: p.1, p.2.1, p.2.2) := by rw [refM8, if_neg h]
theorem close_step {c : UInt8} {s : List UInt8} (h : c ≠ 125) : closeM (c :: s) = (closeM s).map fun p => (c :: p.1, p.2) := by rw [closeM, if_neg h]
theorem drop_one {s : List UInt8} {i : Nat} {c : UInt8} (h : s[i]? = some c) : s.drop i = c :: s.drop (i + 1) := by
  obtain ⟨h1, h2⟩ := List.getElem?_eq_some_iff.1 h
  rw [List.drop_eq_getElem_cons h1, h2]
/-- nothing begins ahead of place i -/
def Ahead (s : List UInt8) (i : Nat) : Prop := refM8 s = (refM8 (s.drop i)).map fun p => (s.take i ++ p.1, p.2.1, p.2.2)
theorem Ahead.zero (s : List UInt8) : Ahead s 0 := by
  unfold Ahead
  rw [List.drop_zero]
  cases refM8 s <;> rfl
theorem Ahead.next {s : List UInt8} {i : Nat} {c : UInt8} (h : Ahead s i) (hc : s[i]? = some c) (hn : ¬ (c = 36 ∧ s[i + 1]? = some 123)) : Ahead s (i + 1) := by
  unfold Ahead at h ⊢
  rw [h, drop_one hc, ref_step (by rw [List.head?_drop]; exact hn), Option.map_map]
  have ht : s.take (i + 1) = s.take i ++ [c] := by
    obtain ⟨h1, h2⟩ := List.getElem?_eq_some_iff.1 hc
    rw [List.take_add_one, hc]; rfl
  rw [ht]
  cases refM8 (s.drop (i + 1)) <;> simp
theorem Ahead.done {s : List UInt8} {i : Nat} (h : Ahead s i) (hi : s.length ≤ i + 1) : refM8 s = none := by
  rw [h]
  match hd : s.drop i with
  | [] => rfl
  | [c] => simp [refM8]
  | c :: d :: t =>
    have := congrArg List.length hd
    simp only [List.length_drop, List.length_cons] at this
    omega
/-- no closing brace between place a and place k -/
def Open8 (s : List UInt8) (a k : Nat) : Prop := closeM (s.drop a) = (closeM (s.drop k)).map fun p => ((s.drop a).take (k - a) ++ p.1, p.2)
theorem Open8.zero (s : List UInt8) (a : Nat) : Open8 s a a := by
  unfold Open8
  rw [Nat.sub_self]
  cases closeM (s.drop a) <;> rfl
theorem Open8.next {s : List UInt8} {a k : Nat} {c : UInt8} (h : Open8 s a k) (ha : a ≤ k) (hc : s[k]? = some c) (hn : c ≠ 125) : Open8 s a (k + 1) := by
  unfold Open8 at h ⊢
  rw [h, drop_one hc, close_step hn, Option.map_map]
  have ht : (s.drop a).take (k + 1 - a) = (s.drop a).take (k - a) ++ [c] := by
    rw [show k + 1 - a = (k - a) + 1 by omega, List.take_add_one, List.getElem?_drop, show a + (k - a) = k by omega, hc]; rfl
  rw [ht]
  cases closeM (s.drop (k + 1)) <;> simp
theorem Open8.done {s : List UInt8} {a k : Nat} (h : Open8 s a k) (hk : s.length ≤ k) : closeM (s.drop a) = none := by
  rw [h, List.drop_eq_nil_of_le hk]
  rfl
theorem Open8.hit {s : List UInt8} {a k : Nat} (h : Open8 s a k) (ha : a ≤ k) (hc : s[k]? = some 125) : closeM (s.drop a) = some ((s.drop a).take (k - a), s.drop (k + 1)) := by
  rw [h, drop_one hc, closeM, if_pos rfl]
  simp
theorem Ahead.at {s : List UInt8} {i : Nat} (h : Ahead s i) (h0 : s[i]? = some 36) (h1 : s[i + 1]? = some 123) : refM8 s = (closeM (s.drop (i + 2))).map fun p => (s.take i, p.1, p.2) := by
  rw [h, drop_one h0, drop_one h1, refM8, if_pos ⟨rfl, rfl⟩, Option.map_map]
  simp only [List.tail_cons]
  cases closeM (s.drop (i + 2)) <;> simp
end Go.Proofs.Ythfholnnkdoagaa
