/-
  Layer 10: what merging means, on lists. Own work.
-/
import Derived.Test.YtjkmmmmbdfcnbaaRefUn10
namespace Go.Proofs.Ytjkmmmmbdfcnbaa
set_option linter.unusedVariables false
set_option linter.unusedSimpArgs false
open Go.RowKit

/-- a row of properties with each of more put -/
def over (l m : List Pr) : List Pr := m.foldl putL l
theorem over_snoc (l m : List Pr) (p : Pr) : over l (m ++ [p]) = putL (over l m) p := by simp [over]
theorem over_len : ∀ (m l : List Pr), (over l m).length ≤ l.length + m.length
  | [], l => by simp [over]
  | p :: m, l => by
    have h1 := over_len m (putL l p)
    have h2 := putL_len l p
    simp only [over, List.foldl_cons, List.length_cons] at h1 ⊢
    omega
theorem over_step {l m : List Pr} {k : Nat} {p : Pr} (hp : m[k]? = some p) : over l (m.take (k + 1)) = putL (over l (m.take k)) p := by
  rw [List.take_add_one, hp, Option.toList_some, over_snoc]
def nilB (t : ByteArray) : Bool := t.toList.isEmpty
theorem nilB_iff {t : ByteArray} : nilB t = true ↔ t = ⟨#[]⟩ := by
  unfold nilB
  rw [List.isEmpty_iff]
  exact ⟨fun h => bytes_eq10 (by rw [h, nil_bytes]), fun h => by rw [h, nil_bytes]⟩
def gOf (c : Pm) : ByteArray := if c.hp && nilB c.g then c.pg else c.g
def vOf (c : Pm) : ByteArray := if c.hp && nilB c.v then c.pv else c.v
theorem gOf_t {c : Pm} (h1 : c.hp = true) (h2 : nilB c.g = true) : gOf c = c.pg := by unfold gOf; rw [h1, h2]; rfl
theorem gOf_h {c : Pm} (h1 : c.hp = false) : gOf c = c.g := by unfold gOf; rw [h1]; rfl
theorem gOf_f {c : Pm} (h2 : nilB c.g = false) : gOf c = c.g := by unfold gOf; rw [h2, Bool.and_false]; rfl
theorem vOf_t {c : Pm} (h1 : c.hp = true) (h2 : nilB c.v = true) : vOf c = c.pv := by unfold vOf; rw [h1, h2]; rfl
theorem vOf_h {c : Pm} (h1 : c.hp = false) : vOf c = c.v := by unfold vOf; rw [h1]; rfl
theorem vOf_f {c : Pm} (h2 : nilB c.v = false) : vOf c = c.v := by unfold vOf; rw [h2, Bool.and_false]; rfl
/-- the child with what it gets from its parent -/
def mergeM (c p : Pm) : Pm := { c with g := gOf c, v := vOf c, ps := over p.ps c.ps, ms := underL c.ms p.ms, ds := underL c.ds p.ds }
theorem underL_len (l m : List Dp) : (underL l m).length ≤ l.length + m.length := by
  unfold underL
  rw [List.length_append]
  have := List.length_filter_le (fun d => !(hasK l (keyD d))) m
  omega
end Go.Proofs.Ytjkmmmmbdfcnbaa
