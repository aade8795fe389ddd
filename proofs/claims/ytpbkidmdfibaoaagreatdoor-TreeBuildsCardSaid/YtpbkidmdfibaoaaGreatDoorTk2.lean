/-
  Layer 2: tokens, and what cutting a text comes to, on lists of bytes. Own work.
-/
import Derived.Test.YtpbkidmdfibaoaaGreatDoorRef
namespace Go.Proofs.YtpbkidmdfibaoaaGreatDoor
set_option linter.unusedVariables false
set_option linter.unusedSimpArgs false
open Go.RowKit

/-- a token; o: how many bytes are ahead of it -/
structure Tk where
  k : Int
  n : List UInt8
  ats : List (List UInt8 × List UInt8)
  t : List UInt8
  o : Nat
/-- what a method comes to: a value, and what is still to be read; or an error at what is still to be read -/
inductive Rs (α : Type) where
  | ok (a : α) (r : List UInt8) : Rs α
  | bad (e : Int) (r : List UInt8) : Rs α
def Rs.bind {α β : Type} : Rs α → (α → List UInt8 → Rs β) → Rs β
  | .ok a r, f => f a r
  | .bad e r, _ => .bad e r
def bl (c : UInt8) : Bool := isBlank (c.toNat : Int)
def tx (c : UInt8) : Bool := isText (c.toNat : Int)
def blanksM (r : List UInt8) : List UInt8 := r.dropWhile bl
def mustM (c : UInt8) : List UInt8 → Rs Unit
  | [] => .bad 13 []
  | d :: r => if d = c then .ok () r else .bad 10 (d :: r)
/-- what stands up to the next back -/
def betM (back : List UInt8) (acc : List UInt8) : List UInt8 → Rs (List UInt8)
  | [] => if back.isPrefixOf [] then .ok acc [] else .bad 13 []
  | c :: r => if back.isPrefixOf (c :: r) then .ok acc ((c :: r).drop back.length) else if tx c then betM back (acc ++ [c]) r else .bad 10 (c :: r)
/-- letters and references up to a byte -/
def letM (stop : UInt8) (opn : Bool) : Nat → List UInt8 → List UInt8 → Rs (List UInt8)
  | 0, acc, r => .ok acc r
  | f + 1, acc, [] => if opn then .ok acc [] else .bad 13 []
  | f + 1, acc, c :: r =>
    if c = stop then .ok acc (c :: r)
    else if c = 38 then
      match refS (c :: r) with
      | (x, n, 0) => letM stop opn f (acc ++ x.data.toList) ((c :: r).drop n)
      | (_, _, y) => .bad (errno y) (c :: r)
    else if c = 60 || !(tx c) then .bad 10 (c :: r)
    else letM stop opn f (acc ++ [c]) r
/-- how many bytes the name in front has -/
def nameL : List UInt8 → Nat
  | [] => 0
  | c :: r => if isFirst (c.toNat : Int) then 1 + (r.takeWhile fun d => isName (d.toNat : Int)).length else 0
def nameM (e : Int) (r : List UInt8) : Rs (List UInt8) :=
  if r = [] then .bad 13 [] else if nameL r = 0 then .bad e r else .ok (r.take (nameL r)) (r.drop (nameL r))
def attrM (ahead : List (List UInt8 × List UInt8)) (r : List UInt8) : Rs (List UInt8 × List UInt8) :=
  (nameM 10 r).bind fun n r1 =>
    if ahead.any (fun a => a.1 == n) then .bad 15 r
    else (mustM 61 (blanksM r1)).bind fun _ r2 =>
      match blanksM r2 with
      | [] => .bad 13 []
      | q :: r3 => if q = 34 || q = 39 then (letM q false (r3.length + 1) [] r3).bind fun v r4 => .ok (n, v) (r4.drop 1) else .bad 10 (q :: r3)
def attrsM : Nat → List (List UInt8 × List UInt8) → List UInt8 → Rs (List (List UInt8 × List UInt8))
  | 0, ats, r => .ok ats r
  | f + 1, ats, r =>
    if blanksM r = r then .ok ats r
    else match blanksM r with
      | [] => .bad 13 []
      | c :: r1 => if c = 47 || c = 62 then .ok ats (c :: r1) else (attrM ats (c :: r1)).bind fun a r2 => attrsM f (ats ++ [a]) r2
/-- a tag that begins an element; r: behind its '<' -/
def openM (r : List UInt8) : Rs (Int × List UInt8 × List (List UInt8 × List UInt8)) :=
  (nameM 11 r).bind fun n r1 => (attrsM (r1.length + 1) [] r1).bind fun ats r2 =>
    match r2 with
    | [] => .bad 13 []
    | c :: r3 => if c = 47 then (mustM 62 r3).bind fun _ r4 => .ok (2, n, ats) r4 else (mustM 62 (c :: r3)).bind fun _ r4 => .ok (1, n, ats) r4
/-- a tag that ends one; r: behind its '</' -/
def closeM (r : List UInt8) : Rs (List UInt8) := (nameM 11 r).bind fun n r1 => (mustM 62 (blanksM r1)).bind fun _ r2 => .ok n r2
def noteF : List UInt8 := [60, 33, 45, 45]
def noteB : List UInt8 := [45, 45, 62]
def cdF : List UInt8 := [60, 33, 91, 67, 68, 65, 84, 65, 91]
def cdB : List UInt8 := [93, 93, 62]
def headF : List UInt8 := [60, 63, 120, 109, 108]
def headB : List UInt8 := [63, 62]
/-- a head begins here (first: nothing is ahead) -/
def headM (first : Bool) (r : List UInt8) : Bool := first && headF.isPrefixOf r && (match r[5]? with | none => false | some c => bl c || c == 63)
/-- the token that begins here; o bytes are ahead -/
def pieceM (o : Nat) (r : List UInt8) : Rs Tk :=
  match r with
  | [] => .bad 13 []
  | c :: r1 =>
    if c ≠ 60 then (letM 60 true (r.length + 1) [] r).bind fun t r2 => .ok ⟨4, [], [], t, o⟩ r2
    else if noteF.isPrefixOf r then (betM noteB [] (r.drop 4)).bind fun t r2 => .ok ⟨5, [], [], t, o⟩ r2
    else if cdF.isPrefixOf r then (betM cdB [] (r.drop 9)).bind fun t r2 => .ok ⟨4, [], [], t, o⟩ r2
    else if headM (o == 0) r then (betM headB [] (r.drop 5)).bind fun t r2 => .ok ⟨6, [], [], t, o⟩ r2
    else if r1.head? = some 47 then (closeM (r.drop 2)).bind fun n r2 => .ok ⟨3, n, [], [], o⟩ r2
    else (openM r1).bind fun x r2 => .ok ⟨x.1, x.2.1, x.2.2, [], o⟩ r2
/-- all tokens of l, r still to be read -/
def goM (l : List UInt8) : Nat → List Tk → List UInt8 → Rs (List Tk)
  | 0, acc, r => .ok acc r
  | f + 1, acc, r => if r = [] then .ok acc [] else (pieceM (l.length - r.length) r).bind fun t r1 => goM l f (acc ++ [t]) r1
def allM (l : List UInt8) : Rs (List Tk) := if 65536 < l.length then .bad 2 l else goM l (l.length + 1) [] l
/-! what is left is an end of what was there -/
def Rs.left {α : Type} : Rs α → List UInt8
  | .ok _ r => r
  | .bad _ r => r
theorem bind_left {α β : Type} {x : Rs α} {f : α → List UInt8 → Rs β} {r : List UInt8} (h : x.left <:+ r) (hf : ∀ a r1, x = .ok a r1 → (f a r1).left <:+ r1) : (x.bind f).left <:+ r := by
  cases x with
  | ok a r1 => exact (hf a r1 rfl).trans h
  | bad e r1 => exact h
theorem blanks_left (r : List UInt8) : blanksM r <:+ r := List.dropWhile_suffix _
theorem must_left (c : UInt8) (r : List UInt8) : (mustM c r).left <:+ r := by
  cases r with
  | nil => exact List.suffix_refl _
  | cons d r =>
    rw [mustM]
    by_cases h : d = c
    · rw [if_pos h]; exact List.suffix_cons _ _
    · rw [if_neg h]; exact List.suffix_refl _
theorem bet_left (back : List UInt8) : ∀ (r acc : List UInt8), (betM back acc r).left <:+ r
  | [], acc => by unfold betM; split <;> exact List.suffix_refl _
  | c :: r, acc => by
    unfold betM
    split
    · exact List.drop_suffix _ _
    · split
      · exact (bet_left back r _).trans (List.suffix_cons _ _)
      · exact List.suffix_refl _
theorem let_left (stop : UInt8) (opn : Bool) : ∀ (f : Nat) (acc r : List UInt8), (letM stop opn f acc r).left <:+ r
  | 0, acc, r => by unfold letM; exact List.suffix_refl _
  | f + 1, acc, [] => by unfold letM; split <;> exact List.suffix_refl _
  | f + 1, acc, c :: r => by
    unfold letM
    split
    · exact List.suffix_refl _
    · split
      · split
        · exact (let_left stop opn f _ _).trans (List.drop_suffix _ _)
        · exact List.suffix_refl _
      · split
        · exact List.suffix_refl _
        · exact (let_left stop opn f _ _).trans (List.suffix_cons _ _)
theorem name_left (e : Int) (r : List UInt8) : (nameM e r).left <:+ r := by
  unfold nameM
  split
  · next h => subst h; exact List.suffix_refl _
  · split
    · exact List.suffix_refl _
    · exact List.drop_suffix _ _
end Go.Proofs.YtpbkidmdfibaoaaGreatDoor
