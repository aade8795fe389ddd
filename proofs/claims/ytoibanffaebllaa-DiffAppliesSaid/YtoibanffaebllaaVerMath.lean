/-
  Layer 4: versions as lists of parts, and their order: plain mathematics. Own work.
-/
import Derived.Test.YtoibanffaebllaaBase
import Derived.Lib.Bytealg
import Derived.Lib.Small
import Derived.Lib.TrimByte
namespace Go.Proofs.Ytoibanffaebllaa
set_option linter.unusedVariables false
set_option linter.unusedSimpArgs false
open Go.RowKit

/-- a comparison that orders -/
structure Ord3 {α : Type} (f : α → α → Int) : Prop where
  rng : ∀ a b, f a b = -1 ∨ f a b = 0 ∨ f a b = 1
  neg : ∀ a b, f b a = - f a b
  trans : ∀ a b c, f a b ≤ 0 → f b c ≤ 0 → f a c ≤ 0

theorem Ord3.self {α : Type} {f : α → α → Int} (h : Ord3 f) (a : α) : f a a = 0 := by have := h.neg a a; omega
theorem Ord3.left {α : Type} {f : α → α → Int} (h : Ord3 f) {a b : α} (c : α) (e : f a b = 0) : f a c = f b c := by
  have n1 := h.neg a b
  have n2 := h.neg a c
  have n3 := h.neg b c
  have r1 := h.rng a c
  have r2 := h.rng b c
  have t1 := h.trans b a c (by omega)
  have t2 := h.trans a b c (by omega)
  have t3 := fun x => h.trans c a b x (by omega)
  have t4 := fun x => h.trans c b a x (by omega)
  omega
theorem Ord3.right {α : Type} {f : α → α → Int} (h : Ord3 f) {b c : α} (a : α) (e : f b c = 0) : f a b = f a c := by
  have n1 := h.neg a b
  have n2 := h.neg a c
  have := h.left a e
  omega
theorem Ord3.pull {α β : Type} {f : α → α → Int} (h : Ord3 f) (k : β → α) : Ord3 fun x y => f (k x) (k y) :=
  ⟨fun a b => h.rng _ _, fun a b => h.neg _ _, fun a b c => h.trans _ _ _⟩
def thenC {α : Type} (f g : α → α → Int) (a b : α) : Int := if f a b ≠ 0 then f a b else g a b
theorem Ord3.next {α : Type} {f g : α → α → Int} (hf : Ord3 f) (hg : Ord3 g) : Ord3 (thenC f g) := by
  refine ⟨fun a b => ?_, fun a b => ?_, fun a b c => ?_⟩
  · unfold thenC; split
    · exact hf.rng a b
    · exact hg.rng a b
  · unfold thenC
    have := hf.neg a b
    have := hg.neg a b
    split <;> split <;> omega
  · unfold thenC
    have n1 := hf.neg a b
    have n2 := hf.neg b c
    have n3 := hf.neg a c
    have t1 := hf.trans a b c
    have t2 := hf.trans b c a
    have t3 := hf.trans c a b
    have t4 := hg.trans a b c
    have r1 := hf.rng a b
    have r2 := hf.rng b c
    have r3 := hf.rng a c
    split <;> split <;> split <;> omega

theorem cmpInt_ord : Ord3 Lib.compareInt := by
  refine ⟨fun a b => ?_, fun a b => ?_, fun a b c => ?_⟩
  all_goals
    unfold Lib.compareInt
    repeat' split
    all_goals omega
theorem cmpBytes_rng : ∀ a b : List UInt8, Lib.compareBytes a b = -1 ∨ Lib.compareBytes a b = 0 ∨ Lib.compareBytes a b = 1
  | [], [] => by simp [Lib.compareBytes]
  | [], _ :: _ => by simp [Lib.compareBytes]
  | _ :: _, [] => by simp [Lib.compareBytes]
  | a :: as, b :: bs => by
    have := cmpBytes_rng as bs
    unfold Lib.compareBytes
    repeat' split
    all_goals omega
theorem cmpBytes_neg : ∀ a b : List UInt8, Lib.compareBytes b a = - Lib.compareBytes a b
  | [], [] => by simp [Lib.compareBytes]
  | [], _ :: _ => by simp [Lib.compareBytes]
  | _ :: _, [] => by simp [Lib.compareBytes]
  | a :: as, b :: bs => by
    have := cmpBytes_neg as bs
    unfold Lib.compareBytes
    simp only [UInt8.lt_iff_toNat_lt]
    repeat' split
    all_goals omega
theorem cmpBytes_trans : ∀ a b c : List UInt8, Lib.compareBytes a b ≤ 0 → Lib.compareBytes b c ≤ 0 → Lib.compareBytes a c ≤ 0
  | [], _, [] => by simp [Lib.compareBytes]
  | [], _, _ :: _ => by simp [Lib.compareBytes]
  | _ :: _, [], _ => by simp [Lib.compareBytes]
  | _ :: _, _ :: _, [] => by simp [Lib.compareBytes]
  | a :: as, b :: bs, c :: cs => by
    have := cmpBytes_trans as bs cs
    have r1 := cmpBytes_rng as bs
    have r2 := cmpBytes_rng bs cs
    unfold Lib.compareBytes
    simp only [UInt8.lt_iff_toNat_lt]
    repeat' split
    all_goals omega
theorem cmpBytes_ord : Ord3 Lib.compareBytes := ⟨cmpBytes_rng, cmpBytes_neg, cmpBytes_trans⟩
theorem cmpBytes_zero : ∀ a b : List UInt8, Lib.compareBytes a b = 0 → a = b
  | [], [] => by simp
  | [], _ :: _ => by simp [Lib.compareBytes]
  | _ :: _, [] => by simp [Lib.compareBytes]
  | a :: as, b :: bs => by
    have h1 := cmpBytes_zero as bs
    intro h
    unfold Lib.compareBytes at h
    simp only [UInt8.lt_iff_toNat_lt] at h
    have : a.toNat = b.toNat := by
      split at h
      · omega
      · split at h
        · omega
        · omega
    rw [if_neg (by omega), if_neg (by omega)] at h
    rw [UInt8.toNat_inj.1 this, h1 h]

/-- a part of a version -/
structure Pt where
  hy : Bool
  nu : Bool
  tx : List UInt8
deriving DecidableEq
def Pt0 : Pt := ⟨false, false, []⟩

def rankW (t : List UInt8) : Int :=
  if t = [97, 108, 112, 104, 97] then 0 else if t = [98, 101, 116, 97] then 1 else if t = [109, 105, 108, 101, 115, 116, 111, 110, 101] then 2 else if t = [114, 99] then 3 else if t = [115, 110, 97, 112, 115, 104, 111, 116] then 4 else if t = [115, 112] then 6 else 7
def rankP (p : Pt) : Int := if p.tx = [] then 5 else if p.nu then (if p.hy then 8 else 9) else rankW p.tx
theorem rankP_bd (p : Pt) : 0 ≤ rankP p ∧ rankP p ≤ 9 := by
  unfold rankP rankW
  repeat' split
  all_goals omega
def lenKey (p : Pt) : Int := if rankP p = 8 ∨ rankP p = 9 then (p.tx.length : Int) else 0

def cmpPt (a b : Pt) : Int := thenC (fun x y => Lib.compareInt (rankP x) (rankP y)) (thenC (fun x y => Lib.compareInt (lenKey x) (lenKey y)) fun x y => Lib.compareBytes x.tx y.tx) a b
theorem cmpPt_ord : Ord3 cmpPt := (cmpInt_ord.pull rankP).next ((cmpInt_ord.pull lenKey).next (cmpBytes_ord.pull Pt.tx))

def ptAt (l : List Pt) (i : Nat) : Pt := l.getD i Pt0
def cmpUp (a b : List Pt) : Nat → Int
  | 0 => 0
  | n + 1 => if cmpUp a b n ≠ 0 then cmpUp a b n else cmpPt (ptAt a n) (ptAt b n)
theorem cmpUp_ord : ∀ n, Ord3 fun a b => cmpUp a b n
  | 0 => ⟨fun _ _ => .inr (.inl rfl), fun _ _ => rfl, fun _ _ _ _ _ => Int.le_refl _⟩
  | n + 1 => (cmpUp_ord n).next (cmpPt_ord.pull fun l => ptAt l n)
theorem cmpUp_stays {a b : List Pt} {n : Nat} (h : cmpUp a b n ≠ 0) : ∀ m, cmpUp a b (n + m) = cmpUp a b n
  | 0 => rfl
  | m + 1 => by
    have := cmpUp_stays h m
    show (if cmpUp a b (n + m) ≠ 0 then cmpUp a b (n + m) else _) = _
    rw [this, if_pos h]
theorem cmpUp_hit {a b : List Pt} {n N : Nat} (h0 : cmpUp a b n = 0) (hc : cmpPt (ptAt a n) (ptAt b n) ≠ 0) (hn : n < N) : cmpUp a b N = cmpPt (ptAt a n) (ptAt b n) := by
  have h1 : cmpUp a b (n + 1) = cmpPt (ptAt a n) (ptAt b n) := by
    show (if cmpUp a b n ≠ 0 then _ else _) = _
    rw [if_neg (by omega)]
  have := cmpUp_stays (a := a) (b := b) (n := n + 1) (by rw [h1]; exact hc) (N - (n + 1))
  rw [show n + 1 + (N - (n + 1)) = N by omega] at this
  rw [this, h1]
theorem cmpUp_on {a b : List Pt} {n : Nat} (h0 : cmpUp a b n = 0) (hc : cmpPt (ptAt a n) (ptAt b n) = 0) : cmpUp a b (n + 1) = 0 := by
  show (if cmpUp a b n ≠ 0 then _ else _) = _
  rw [if_neg (by omega), hc]
theorem ptAt_over {l : List Pt} {i : Nat} (h : l.length ≤ i) : ptAt l i = Pt0 := by
  unfold ptAt
  rw [List.getD_eq_getElem?_getD, List.getElem?_eq_none h]; rfl
theorem cmpUp_over {a b : List Pt} {n : Nat} (ha : a.length ≤ n) (hb : b.length ≤ n) : ∀ m, cmpUp a b (n + m) = cmpUp a b n
  | 0 => rfl
  | m + 1 => by
    have := cmpUp_over ha hb m
    show (if cmpUp a b (n + m) ≠ 0 then cmpUp a b (n + m) else cmpPt (ptAt a (n + m)) (ptAt b (n + m))) = _
    rw [this, ptAt_over (by omega), ptAt_over (by omega), cmpPt_ord.self]
    split <;> omega
def cmpL (a b : List Pt) : Int := cmpUp a b (max a.length b.length)
theorem cmpL_at {a b : List Pt} (N : Nat) (ha : a.length ≤ N) (hb : b.length ≤ N) : cmpL a b = cmpUp a b N := by
  unfold cmpL
  have := cmpUp_over (a := a) (b := b) (n := max a.length b.length) (by omega) (by omega) (N - max a.length b.length)
  rw [show max a.length b.length + (N - max a.length b.length) = N by omega] at this
  exact this.symm
theorem cmpL_ord : Ord3 cmpL := by
  refine ⟨fun a b => (cmpUp_ord _).rng a b, fun a b => ?_, fun a b c h1 h2 => ?_⟩
  · rw [cmpL_at (max a.length b.length) (by omega) (by omega), cmpL_at (a := a) (max a.length b.length) (by omega) (by omega)]
    exact (cmpUp_ord _).neg a b
  · obtain ⟨N, hN⟩ : ∃ N, N = max a.length (max b.length c.length) := ⟨_, rfl⟩
    rw [cmpL_at N (by omega) (by omega)] at h1 h2 ⊢
    exact (cmpUp_ord N).trans a b c h1 h2

/-- the word that a piece stands for -/
def wordP (t : List UInt8) (joined : Bool) : List UInt8 :=
  if t = [103, 97] ∨ t = [102, 105, 110, 97, 108] ∨ t = [114, 101, 108, 101, 97, 115, 101] then []
  else if t = [99, 114] then [114, 99]
  else if joined = false then t
  else if t = [97] then [97, 108, 112, 104, 97] else if t = [98] then [98, 101, 116, 97] else if t = [109] then [109, 105, 108, 101, 115, 116, 111, 110, 101] else t
def isDg (c : UInt8) : Bool := decide (48 ≤ c.toNat) && decide (c.toNat ≤ 57)
def numP (t : List UInt8) : Bool := t.isEmpty || isDg (t.headD 0)
def mkPt (t : List UInt8) (hy joined : Bool) : Pt := if numP t then ⟨hy, true, Lib.trimLeftB t 48⟩ else ⟨hy, false, wordP t joined⟩

def sl (l : List UInt8) (i j : Nat) : List UInt8 := (l.take j).drop i
/-- the parts, where the next one begins, and whether a hyphen stands ahead of it, behind the first k bytes -/
structure Cutter where
  out : List Pt
  at_ : Nat
  hy : Bool
def isCut (c : UInt8) : Bool := c == 46 || c == 45
def cut1 (l : List UInt8) (s : Cutter) (i : Nat) : Cutter :=
  if isCut (l.getD i 0) then ⟨s.out ++ [mkPt (sl l s.at_ i) s.hy false], i + 1, l.getD i 0 == 45⟩
  else if s.at_ < i ∧ isDg (l.getD i 0) ≠ isDg (l.getD (i - 1) 0) then ⟨s.out ++ [mkPt (sl l s.at_ i) s.hy true], i, true⟩
  else s
def cutUp (l : List UInt8) : Nat → Cutter
  | 0 => ⟨[], 0, false⟩
  | k + 1 => cut1 l (cutUp l k) k
theorem cutUp_at (l : List UInt8) : ∀ k, (cutUp l k).at_ ≤ k ∧ (cutUp l k).out.length ≤ k
  | 0 => by simp [cutUp]
  | k + 1 => by
    have := cutUp_at l k
    show (cut1 l (cutUp l k) k).at_ ≤ k + 1 ∧ (cut1 l (cutUp l k) k).out.length ≤ k + 1
    unfold cut1
    split
    · simp; omega
    · split
      · simp; omega
      · omega
def parts0 (l : List UInt8) : List Pt := (cutUp l l.length).out ++ [mkPt (l.drop (cutUp l l.length).at_) (cutUp l l.length).hy false]
/-- the parts that stay, from the last on, behind k of them -/
def lastHy (l : List Pt) : Bool := match l.getLast? with
  | none => true
  | some p => p.hy
def keepB (l b : List Pt) (i : Nat) : Bool := i == 0 || !(ptAt l i).tx.isEmpty || !lastHy b
def backUp (l : List Pt) : Nat → List Pt
  | 0 => []
  | k + 1 => if keepB l (backUp l k) (l.length - 1 - k) then backUp l k ++ [ptAt l (l.length - 1 - k)] else backUp l k
theorem backUp_len (l : List Pt) : ∀ k, (backUp l k).length ≤ k
  | 0 => by simp [backUp]
  | k + 1 => by
    have := backUp_len l k
    unfold backUp
    split
    · simp; omega
    · omega
def trimmedL (l : List Pt) : List Pt := (backUp l l.length).reverse
theorem trimmedL_len (l : List Pt) : (trimmedL l).length ≤ l.length := by
  unfold trimmedL
  rw [List.length_reverse]
  exact backUp_len l _
theorem parts0_len (l : List UInt8) : (parts0 l).length ≤ l.length + 1 := by
  unfold parts0
  have := (cutUp_at l l.length).2
  simp; omega

def lowB (c : UInt8) : UInt8 := if 65 ≤ c.toNat ∧ c.toNat ≤ 90 then c + 32 else c
/-- the parts of a text -/
def partsB (l : List UInt8) : List Pt := trimmedL (parts0 (l.map lowB))
theorem partsB_len (l : List UInt8) : (partsB l).length ≤ l.length + 1 := by
  unfold partsB
  have := trimmedL_len (parts0 (l.map lowB))
  have := parts0_len (l.map lowB)
  rw [List.length_map] at this
  omega
def cmpB (a b : List UInt8) : Int := cmpL (partsB a) (partsB b)
theorem cmpB_ord : Ord3 cmpB := cmpL_ord.pull partsB

def canP (i : Nat) (p : Pt) : List UInt8 := (if i = 0 then [] else if p.hy then [45] else [46]) ++ (if p.nu && p.tx.isEmpty then [48] else []) ++ p.tx
def canUp (l : List Pt) : Nat → List UInt8
  | 0 => []
  | k + 1 => canUp l k ++ canP k (ptAt l k)
def canonB (l : List UInt8) : List UInt8 := canUp (partsB l) (partsB l).length

example : cmpB [49, 46, 48, 45, 114, 99, 50] [49, 46, 48, 45, 115, 110, 97, 112, 115, 104, 111, 116] = -1 := by decide +kernel
example : canonB [49, 46, 49, 48, 97, 50] = [49, 46, 49, 48, 45, 97, 108, 112, 104, 97, 45, 50] := by decide +kernel
end Go.Proofs.Ytoibanffaebllaa
