/-
  Layer 3: trees, and what building one of tokens comes to, on lists. Own work.
-/
import Derived.Test.YtpbkidmdfibaoaaGreatDoorMem2
namespace Go.Proofs.YtpbkidmdfibaoaaGreatDoor
set_option linter.unusedVariables false
set_option linter.unusedSimpArgs false
open Go.RowKit

/-- a tree: its name (of a text: none), its attributes, its kids, its text -/
inductive Tr where
  | mk (n : List UInt8) (ats : List At2) (ks : List Tr) (t : List UInt8) : Tr
def Tr.n : Tr → List UInt8
  | .mk n _ _ _ => n
def Tr.ats : Tr → List At2
  | .mk _ ats _ _ => ats
def Tr.ks : Tr → List Tr
  | .mk _ _ ks _ => ks
def Tr.t : Tr → List UInt8
  | .mk _ _ _ t => t
theorem Tr.eta (x : Tr) : Tr.mk x.n x.ats x.ks x.t = x := by cases x; rfl
def Tr.nil : Tr := .mk [] [] [] []
instance : Inhabited Tr := ⟨Tr.nil⟩
mutual
def Tr.size : Tr → Nat
  | .mk _ _ ks _ => 1 + Tr.sizes ks
def Tr.sizes : List Tr → Nat
  | [] => 0
  | k :: ks => k.size + Tr.sizes ks
end
theorem Tr.size_pos (x : Tr) : 0 < x.size := by cases x; simp [Tr.size]; omega
theorem Tr.size_mem {k : Tr} : ∀ {ks : List Tr}, k ∈ ks → k.size ≤ Tr.sizes ks
  | [], h => by simp at h
  | x :: ks, h => by
    rw [Tr.sizes]
    rcases List.mem_cons.1 h with rfl | h
    · omega
    · have := Tr.size_mem h; omega
theorem Tr.sizes_app : ∀ a b : List Tr, Tr.sizes (a ++ b) = Tr.sizes a + Tr.sizes b
  | [], b => by simp [Tr.sizes]
  | x :: a, b => by
    have := Tr.sizes_app a b
    simp only [List.cons_append, Tr.sizes, this]; omega
theorem Tr.size_ks (x : Tr) : x.size = 1 + Tr.sizes x.ks := by cases x; rfl
theorem Tr.len_sizes : ∀ l : List Tr, l.length ≤ Tr.sizes l
  | [] => by simp
  | x :: l => by
    have := Tr.len_sizes l
    have := x.size_pos
    simp only [List.length_cons, Tr.sizes]; omega
/-- with one more kid -/
def Tr.add (u k : Tr) : Tr := .mk u.n u.ats (u.ks ++ [k]) u.t
/-- with other text at its last kid -/
def Tr.put (u : Tr) (k : Tr) : Tr := .mk u.n u.ats (u.ks.dropLast ++ [k]) u.t
/-- what is made of tokens: the open elements, the innermost one first; the root; how many there are -/
structure Gs where
  st : List Tr
  root : Option Tr
  c : Nat
inductive Rg where
  | ok (g : Gs) : Rg
  | bad (e : Int) : Rg
def leaveG (g : Gs) : Gs :=
  match g.st with
  | [] => g
  | [x] => ⟨[], some x, g.c⟩
  | x :: u :: st => ⟨u.add x :: st, g.root, g.c⟩
def beginG (g : Gs) (n : List UInt8) (ats : List At2) (k : Int) : Rg :=
  if g.root.isSome then .bad 16
  else if 64 ≤ g.st.length ∨ 4096 ≤ g.c then .bad 2
  else if k = 2 then .ok (leaveG ⟨.mk n ats [] [] :: g.st, g.root, g.c + 1⟩)
  else .ok ⟨.mk n ats [] [] :: g.st, g.root, g.c + 1⟩
def endG (g : Gs) (n : List UInt8) : Rg :=
  match g.st with
  | [] => .bad 16
  | x :: _ => if x.n = n then .ok (leaveG g) else .bad 14
def textG (g : Gs) (s : List UInt8) : Rg :=
  match g.st with
  | [] => if s.all bl then .ok g else .bad 16
  | u :: st =>
    if s = [] then .ok g
    else match u.ks.getLast? with
      | some k => if k.n = [] then .ok ⟨u.put (.mk k.n k.ats k.ks (k.t ++ s)) :: st, g.root, g.c⟩ else if 4096 ≤ g.c then .bad 2 else .ok ⟨u.add (.mk [] [] [] s) :: st, g.root, g.c + 1⟩
      | none => if 4096 ≤ g.c then .bad 2 else .ok ⟨u.add (.mk [] [] [] s) :: st, g.root, g.c + 1⟩
def addG (g : Gs) (x : Tk) : Rg :=
  if x.k = 1 ∨ x.k = 2 then beginG g x.n x.ats x.k
  else if x.k = 3 then endG g x.n
  else if x.k = 4 then textG g x.t
  else .ok g
/-- what building comes to: a tree, or an error and how many bytes are ahead of it -/
inductive Rb where
  | ok (t : Tr) : Rb
  | bad (e : Int) (o : Nat) : Rb
def growM (n : Nat) : Gs → List Tk → Rb
  | g, [] => if g.st ≠ [] then .bad 13 n else match g.root with
    | none => .bad 16 n
    | some t => .ok t
  | g, x :: xs => match addG g x with
    | .ok g' => growM n g' xs
    | .bad e => .bad e x.o
def buildM (l : List UInt8) : Rb :=
  match allM l with
  | .ok ts _ => growM l.length ⟨[], none, 0⟩ ts
  | .bad e r => .bad e (l.length - r.length)
end Go.Proofs.YtpbkidmdfibaoaaGreatDoor
