/-
  Layer 29: the work in memory: every row of it has a tag, its place and what it holds. Own work.
-/
import Derived.Test.YtlcbfahaapodmaaSem29
import Derived.Test.YtlcbfahaapodmaaSome21
import Derived.Laws.OwnMore
import Derived.OneCell
import Derived.Deep.QuietTactic
import Derived.Deep.Upon
namespace Go.Proofs.Ytlcbfahaapodmaa
set_option linter.unusedVariables false
set_option linter.unusedSimpArgs false
open Go.RowKit

/-- whose a block is -/
inductive Tw
  | free | top | lst | gon | fix | std | cnt | mem | sig
  | cl (i : Nat)
  | st (a : Nat)
deriving DecidableEq
structure Ws where
  vars : Nat
  L : Cs
  G : List Bool
  pl : Bool := false
  en : Bool := false
  fx : List Int := []
  ns : Nat := 0
  st : Nat → List Nat := fun _ => []
  cn : Nat → Int := fun _ => 0
  bg : Bool := false
  first : Nat := 0
  lit : Int := 0
  next : Nat := 0
  mb : List Bool := []
  sg : List Nat := []
structure Wm where
  K : Nat
  hd : Tw → Value
  tag : Nat → Tw
def tyW : Tw → TypeId
  | .lst => 27
  | .std => 27
  | .gon => 4
  | .mem => 4
  | .sig => 70
  | _ => 3
def isRow : Tw → Bool
  | .free => false
  | .top => false
  | _ => true
def isCl : Tw → Bool
  | .cl _ => true
  | _ => false
def wide (S : Ws) : Nat := 2 * S.vars + 1
def nV (n : Nat) : Value := .int .i64 (n : Int)
def uV (n : Nat) : Value := .int .u64 (n : Int)
def ctW (S : Ws) (hd : Tw → Value) : Tw → List Value
  | .lst => (List.range S.L.length).map fun i => hd (.cl i)
  | .gon => S.G.map bV
  | .fix => S.fx.map iV
  | .std => (List.range (wide S)).map fun a => hd (.st a)
  | .cnt => (List.range (wide S)).map fun a => iV (S.cn a)
  | .mem => S.mb.map bV
  | .sig => S.sg.map uV
  | .cl i => (S.L.getD i []).map iV
  | .st a => (S.st a).map nV
  | _ => []
def topW (S : Ws) (hd : Tw → Value) : Array Value :=
  #[nV S.vars, hd .lst, hd .gon, bV S.pl, bV S.en, hd .fix, nV S.ns, hd .std, hd .cnt, bV S.bg, nV S.first, iV S.lit, nV S.next, hd .mem, hd .sig]
/-- the elements of a row that is read only -/
def RdO (w : World) (n0 : Nat) (e : TypeId) (v : Value) (xs : List Value) : Prop :=
  ((∃ a, v = .slice a 0 0) ∧ xs = []) ∨ ∃ g cap, v = .slice (some ⟨g, 0, none⟩) xs.length cap ∧ n0 ≤ g ∧ xs.length ≤ cap ∧ cap ≤ maxLen ∧ ∀ (j : Nat) x, xs[j]? = some x → w.cell? ⟨g, j, none⟩ = some x ∧ w.frozen? ⟨g, j, none⟩ = false
theorem RdO.of {w : World} {n0 n : Nat} {e : TypeId} {v : Value} {xs : List Value} (h : w.ownsRow n0 e 1 v n xs) : RdO w n0 e v xs := by
  obtain ⟨h1, h2⟩ := h
  have hl : xs.length = n := by omega
  rcases h2 with ⟨rfl, hn⟩ | ⟨g, cap, cur, rfl, hg, hb, hn, hm, hs, ht⟩
  · exact .inl ⟨⟨none, rfl⟩, List.eq_nil_of_length_eq_zero (by omega)⟩
  · refine .inr ⟨g, cap, by rw [hl], hg, by omega, hm, fun j x hx => ⟨?_, frozen_of_row w g j _ _ hb⟩⟩
    rw [cell_of_row w g j cur _ (0, 0) hb, ← Array.getElem?_toList]
    have hj := (List.getElem?_eq_some_iff.1 hx).1
    rw [← ht, List.getElem?_take, if_pos (by omega)] at hx
    exact hx
theorem RdO.kept {w w' : World} {n0 : Nat} {e : TypeId} {v : Value} {xs : List Value} {row : Option Nat} (h : RdO w n0 e v xs) (hg : w.grownBy w' row) (hne : v.ownBlock = none ∨ v.ownBlock ≠ row) : RdO w' n0 e v xs := by
  rcases h with h | ⟨g, cap, rfl, h1, h2, h3, h4⟩
  · exact .inl h
  · refine .inr ⟨g, cap, rfl, h1, h2, h3, fun j x hx => ?_⟩
    obtain ⟨k1, k2⟩ := h4 j x hx
    have hlt : g < w.heap.size := World.block_lt_of_cell? w _ k1
    have hb := hg.block g hlt (by
      rcases hne with h | h
      · cases h
      · exact fun e => h e)
    exact ⟨(World.cell?_of_block (a := ⟨g, j, none⟩) hb).trans k1, (World.frozen?_of_block (a := ⟨g, j, none⟩) hb).trans k2⟩
theorem RdO.reads {α : Type} {w : World} {n0 : Nat} {e : TypeId} {v : Value} {f : α → Value} {l : List α} (h : RdO w n0 e v (l.map f)) : Reads w f v l := by
  rcases h with ⟨⟨a, rfl⟩, hx⟩ | ⟨g, cap, rfl, h1, hn, hm, h4⟩
  · have hl : l = [] := List.map_eq_nil_iff.1 hx
    subst hl
    cases a with
    | none => exact .inl ⟨rfl, rfl⟩
    | some a => exact .inr ⟨a, 0, rfl, Nat.le_refl _, by simp, fun j x hx => by simp at hx⟩
  · refine .inr ⟨⟨g, 0, none⟩, cap, by rw [List.length_map], by rw [List.length_map] at hn; exact hn, by unfold maxLen at hm; exact hm, fun j x hx => ?_⟩
    have : (⟨g, 0, none⟩ : Addr).add j = ⟨g, j, none⟩ := by unfold Addr.add; split <;> simp_all
    rw [this]
    exact (h4 j (f x) (by rw [List.getElem?_map, hx]; rfl)).1
/-- a row with a tag -/
def Rw (w : World) (n0 : Nat) (S : Ws) (hd : Tw → Value) (t : Tw) : Prop :=
  w.ownsRow n0 (tyW t) 1 (hd t) (ctW S hd t).length (ctW S hd t) ∨ (isCl t = true ∧ (S.pl = true ∨ ∃ a, hd t = .slice a 0 0) ∧ RdO w n0 (tyW t) (hd t) (ctW S hd t))
theorem Rw.rd {w : World} {n0 : Nat} {S : Ws} {hd : Tw → Value} {t : Tw} (h : Rw w n0 S hd t) : RdO w n0 (tyW t) (hd t) (ctW S hd t) := by
  rcases h with h | ⟨_, _, h⟩
  · exact RdO.of h
  · exact h
theorem Rw.own {w : World} {n0 : Nat} {S : Ws} {hd : Tw → Value} {t : Tw} (h : Rw w n0 S hd t) (ht : isCl t = false ∨ S.pl = false ∧ ctW S hd t ≠ []) : w.ownsRow n0 (tyW t) 1 (hd t) (ctW S hd t).length (ctW S hd t) := by
  rcases h with h | ⟨h1, h2, h3⟩
  · exact h
  · rcases ht with ht | ⟨ht, h4⟩
    · rw [h1] at ht; cases ht
    · rcases h2 with h2 | ⟨a, h2⟩
      · rw [h2] at ht; cases ht
      · rcases h3 with ⟨_, h3⟩ | ⟨g, cap, h3, _⟩
        · exact absurd h3 h4
        · rw [h2] at h3
          have : (ctW S hd t).length = 0 := by injection h3 with _ h5 _; exact h5.symm
          exact absurd (List.eq_nil_of_length_eq_zero this) h4
theorem Rw.zero {w w' : World} {n0 : Nat} {S : Ws} {hd : Tw → Value} {t : Tw} (h : Rw w n0 S hd t) (hc : isCl t = true) {a : Option Addr} (ha : hd t = .slice a 0 0) : Rw w' n0 S hd t := by
  refine .inr ⟨hc, .inr ⟨a, ha⟩, .inl ⟨⟨a, ha⟩, ?_⟩⟩
  rcases h.rd with ⟨_, h3⟩ | ⟨g, cap, h3, _⟩
  · exact h3
  · rw [ha] at h3
    injection h3 with _ h5 _
    exact List.eq_nil_of_length_eq_zero h5.symm
theorem Rw.kept {w w' : World} {n0 : Nat} {S : Ws} {hd : Tw → Value} {t : Tw} {row : Option Nat} (h : Rw w n0 S hd t) (hg : w.grownBy w' row) (hne : (hd t).ownBlock = none ∨ (hd t).ownBlock ≠ row) : Rw w' n0 S hd t := by
  rcases h with h | ⟨h1, h2, h⟩
  · exact .inl (h.kept hg hne)
  · exact .inr ⟨h1, h2, h.kept hg hne⟩
theorem Rw.turn {w : World} {n0 : Nat} {S S' : Ws} {hd hd' : Tw → Value} {t : Tw} (h : Rw w n0 S hd t) (e1 : hd' t = hd t) (e2 : ctW S' hd' t = ctW S hd t) (e3 : S.pl = true → S'.pl = true) : Rw w n0 S' hd' t := by
  rcases h with h | ⟨h1, h2, h⟩
  · refine .inl ?_
    rw [e1, e2]; exact h
  · refine .inr ⟨h1, by rw [e1]; exact h2.imp e3 id, ?_⟩
    rw [e1, e2]; exact h
structure KW (w : World) (n0 : Nat) (M : Wm) (S : Ws) (ex : Tw → Prop) : Prop where
  top : ¬ ex .top → w.heap[M.K]? = some (.cells (topW S M.hd) 56 (0, 0))
  row : ∀ t, isRow t = true → ¬ ex t → Rw w n0 S M.hd t
  tK : M.tag M.K = .top
  th : ∀ t b, isRow t = true → (M.hd t).ownBlock = some b → M.tag b = t ∨ (isCl t = true ∧ ∃ a, M.hd t = .slice a 0 0)
  fresh : ∀ b, w.heap.size ≤ b → M.tag b = .free
  lo : ∀ b, b < n0 → M.tag b = .free
  base : n0 ≤ w.heap.size
def noW : Tw → Prop := fun _ => False
def orW (ex : Tw → Prop) (t : Tw) : Tw → Prop := fun s => ex s ∨ s = t
def butW (ex : Tw → Prop) (t : Tw) : Tw → Prop := fun s => ex s ∧ s ≠ t
section
variable {w w' : World} {n0 : Nat} {M : Wm} {S : Ws} {ex ex' : Tw → Prop} {row : Option Nat}
theorem KW.thn (h : KW w n0 M S ex) {t : Tw} {b : Nat} (ht : isRow t = true) (hc : isCl t = false) (hb : (M.hd t).ownBlock = some b) : M.tag b = t := by
  rcases h.th t b ht hb with h | ⟨h, _⟩
  · exact h
  · rw [hc] at h; cases h
/-- what was written into is left out -/
theorem KW.keep (h : KW w n0 M S ex) (hg : w.grownBy w' row) (hx : ∀ t, t ≠ .free → (ex t ∨ ∃ b, row = some b ∧ M.tag b = t) → ex' t) : KW w' n0 M S ex' := by
  refine ⟨fun e => ?_, fun t ht e => ?_, h.tK, h.th, fun b hb => h.fresh b (Nat.le_trans hg.size hb), h.lo, Nat.le_trans h.base hg.size⟩
  · have h1 := h.top fun h3 => e (hx _ (by simp) (.inl h3))
    exact (hg.block M.K (Array.getElem?_eq_some_iff.1 h1).1 (fun h2 => e (hx _ (by simp) (.inr ⟨M.K, h2.symm, h.tK⟩)))).trans h1
  · have h0 : t ≠ .free := fun e => by subst e; cases ht
    have hr := h.row t ht (fun h3 => e (hx _ h0 (.inl h3)))
    cases hb : (M.hd t).ownBlock with
    | none => exact hr.kept hg (.inl hb)
    | some b =>
      rcases h.th t b ht hb with h4 | ⟨h4, a, h5⟩
      · exact hr.kept hg (.inr (fun h2 => e (hx _ h0 (.inr ⟨b, by rw [← h2, hb], h4⟩))))
      · exact hr.zero h4 h5
theorem KW.keep0 (h : KW w n0 M S ex) (hg : w.grownBy w' none) : KW w' n0 M S ex :=
  h.keep hg (fun t _ h => h.elim id (fun ⟨b, h, _⟩ => by cases h))
theorem KW.drew (h : KW w n0 M S ex) : KW w.drew n0 M S ex := h.keep0 ⟨rfl, rfl, rfl, Nat.le_refl _, fun _ _ _ => rfl⟩
theorem KW.drewN (h : KW w n0 M S ex) (m : Nat) : KW (w.drewN m) n0 M S ex := h.keep0 ⟨rfl, rfl, rfl, Nat.le_refl _, fun _ _ _ => rfl⟩
theorem KW.alloc (h : KW w n0 M S ex) (o : Obj) : KW (w.alloc o) n0 M S ex := h.keep0 (World.grownBy_alloc _ _ _)
theorem KW.less (h : KW w n0 M S ex) (hx : ∀ t, ex t → ex' t) : KW w n0 M S ex' :=
  h.keep (row := none) (World.grownBy.refl _ _) (fun t _ h => h.elim (hx t) (fun ⟨b, h, _⟩ => by cases h))
/-- a free block is somebody's -/
def tagW (f : Nat → Tw) (X : Nat) (t : Tw) : Nat → Tw := fun b => if b = X then t else f b
theorem KW.retag (h : KW w n0 M S ex) {X : Nat} {t : Tw} (hX : M.tag X = .free) (h1 : n0 ≤ X) (h2 : X < w.heap.size) : KW w n0 { M with tag := tagW M.tag X t } S ex := by
  have e : ∀ b u, u ≠ .free → M.tag b = u → tagW M.tag X t b = u := fun b u hu hb => by
    unfold tagW
    rw [if_neg (fun e => by rw [e, hX] at hb; exact hu hb.symm)]
    exact hb
  refine ⟨h.top, h.row, e _ _ (by simp) h.tK, fun t b ht hb => (h.th t b ht hb).imp (fun hh => e _ _ (fun e => by subst e; cases ht) hh) id, fun b hb => ?_, fun b hb => ?_, h.base⟩
  · show tagW M.tag X t b = .free
    unfold tagW
    rw [if_neg (by omega)]
    exact h.fresh b hb
  · show tagW M.tag X t b = .free
    unfold tagW
    rw [if_neg (by omega)]
    exact h.lo b hb
/-- another state, in the same world -/
theorem KW.to {M' : Wm} {S' : Ws} (h : KW w n0 M S ex) (eK : M'.K = M.K) (et : M'.tag = M.tag) (ep : S.pl = true → S'.pl = true) (htop : ¬ ex' .top → w.heap[M.K]? = some (.cells (topW S' M'.hd) 56 (0, 0)))
    (hrow : ∀ t, isRow t = true → ¬ ex' t → (¬ ex t ∧ M'.hd t = M.hd t ∧ ctW S' M'.hd t = ctW S M.hd t) ∨ Rw w n0 S' M'.hd t) (hth : ∀ t b, isRow t = true → (M'.hd t).ownBlock = some b → M'.hd t = M.hd t ∨ M.tag b = t) : KW w n0 M' S' ex' := by
  refine ⟨fun e => by rw [eK]; exact htop e, fun t ht e => ?_, by rw [et, eK]; exact h.tK, fun t b ht hb => ?_, by rw [et]; exact h.fresh, by rw [et]; exact h.lo, h.base⟩
  · rcases hrow t ht e with ⟨h1, h2, h3⟩ | h1
    · exact (h.row t ht h1).turn h2 h3 ep
    · exact h1
  · rw [et]
    rcases hth t b ht hb with h1 | h1
    · rw [h1] at hb ⊢; exact h.th t b ht hb
    · exact .inl h1
theorem KW.cell (h : KW w n0 M S ex) (hx : ¬ ex .top) (i : Nat) : w.cell? ⟨M.K, i, none⟩ = (topW S M.hd)[i]? := cell_of_row w M.K i _ _ (0, 0) (h.top hx)
theorem KW.froz (h : KW w n0 M S ex) (hx : ¬ ex .top) (i : Nat) : w.frozen? ⟨M.K, i, none⟩ = false := frozen_of_row w M.K i _ _ (h.top hx)
/-- a row's header -/
theorem KW.shape (h : KW w n0 M S ex) {t : Tw} (ht : isRow t = true) (hx : ¬ ex t) : ∃ a c, M.hd t = .slice a (ctW S M.hd t).length c := by
  rcases (h.row t ht hx).rd with ⟨h1, h2⟩ | ⟨g, cap, h1, _⟩
  · obtain ⟨a, h1⟩ := h1
    exact ⟨a, 0, by rw [h1, h2]; rfl⟩
  · exact ⟨some ⟨g, 0, none⟩, cap, h1⟩
/-- a row's cell -/
theorem KW.at (h : KW w n0 M S ex) {t : Tw} (ht : isRow t = true) (hx : ¬ ex t) {j : Nat} {x : Value} (hj : (ctW S M.hd t)[j]? = some x) :
    ∃ g cap, M.hd t = .slice (some ⟨g, 0, none⟩) (ctW S M.hd t).length cap ∧ w.cell? ⟨g, j, none⟩ = some x ∧ w.frozen? ⟨g, j, none⟩ = false ∧ M.tag g = t ∧ g < w.heap.size := by
  rcases (h.row t ht hx).rd with ⟨h1, h2⟩ | ⟨g, cap, h1, _, hn, _, h4⟩
  · rw [h2] at hj; simp at hj
  · obtain ⟨k1, k2⟩ := h4 j x hj
    refine ⟨g, cap, h1, k1, k2, ?_, World.block_lt_of_cell? w _ k1⟩
    rcases h.th t g ht (by rw [h1]; rfl) with h5 | ⟨_, a, h5⟩
    · exact h5
    · rw [h1] at h5
      injection h5 with _ h6 _
      have := (List.getElem?_eq_some_iff.1 hj).1
      omega
/-- a cell of a row is written -/
theorem KW.put (h : KW w n0 M S ex) {S' : Ws} {t : Tw} (ht : isRow t = true) (hcl : isCl t = false) (hx : ¬ ex t) {g cap j : Nat} (hg : M.hd t = .slice (some ⟨g, 0, none⟩) (ctW S M.hd t).length cap) (u : Value)
    (ep : S'.pl = S.pl) (etop : topW S' M.hd = topW S M.hd) (erow : ctW S' M.hd t = (ctW S M.hd t).set j u) (eoth : ∀ s, isRow s = true → s ≠ t → ¬ ex s → ctW S' M.hd s = ctW S M.hd s) : KW (w.setCell ⟨g, j, none⟩ u) n0 M S' ex := by
  have ho := (h.row t ht hx).own (.inl hcl)
  rw [hg] at ho
  obtain ⟨h1, h2⟩ := ho.stored j u
  have htg : M.tag g = t := h.thn ht hcl (by rw [hg]; rfl)
  have hk := h.keep (ex' := orW ex t) h2 (fun s _ hs => hs.elim .inl (fun ⟨b, hb, hs⟩ => .inr (by rw [← hs, ← Option.some.inj hb, htg])))
  have hnt : ∀ s, s ≠ t → ¬ ex s → ¬ orW ex t s := fun s h1 h2 h3 => h3.elim h2 h1
  have htt : t ≠ .top := fun e => by subst e; cases ht
  refine hk.to rfl rfl (fun e => ep.trans e) (fun e => ?_) (fun s hs e => ?_) (fun _ _ _ _ => .inl rfl)
  · rw [etop]; exact hk.top (hnt _ (fun e => htt e.symm) e)
  · by_cases hst : s = t
    · subst hst
      refine .inr (.inl ?_)
      rw [erow, List.length_set, hg]
      exact h1
    · exact .inl ⟨hnt s hst e, rfl, eoth s hs hst e⟩
/-- a cell of the struct is written -/
theorem KW.setTop (h : KW w n0 M S ex) {S' : Ws} (hx : ¬ ex .top) (i : Nat) (u : Value) (ep : S.pl = true → S'.pl = true) (etop : topW S' M.hd = (topW S M.hd).setIfInBounds i u) (eoth : ∀ s, isRow s = true → ¬ ex s → ctW S' M.hd s = ctW S M.hd s) :
    KW (w.setCell ⟨M.K, i, none⟩ u) n0 M S' ex := by
  have hgs : w.grownBy (w.setCell ⟨M.K, i, none⟩ u) (some M.K) := ⟨rfl, rfl, rfl, by simp, fun k _ hk => heap_setCell_other w _ k u (fun e => hk (by simp [e]))⟩
  have hk := h.keep (ex' := orW ex .top) hgs (fun s _ hs => hs.elim .inl (fun ⟨b, hb, hs⟩ => .inr (by rw [← hs, ← Option.some.inj hb, h.tK])))
  refine hk.to rfl rfl ep (fun e => ?_) (fun s hs e => ?_) (fun _ _ _ _ => .inl rfl)
  · rw [etop]
    exact heap_setCell_same w M.K i _ _ u (h.top hx)
  · exact .inl ⟨fun h3 => h3.elim e (fun e => by subst e; cases hs), rfl, eoth s hs e⟩
/-- what is the same from w to w': all blocks but those of ts -/
structure FrW (M M' : Wm) (ts : Tw → Prop) (w w' : World) : Prop where
  os : w'.os = w.os
  tape : w'.tape = w.tape
  output : w'.output = w.output
  size : w.heap.size ≤ w'.heap.size
  block : ∀ b, b < w.heap.size → ¬ ts (M.tag b) → w'.heap[b]? = w.heap[b]?
  tags : ∀ b, b < w.heap.size → M'.tag b = M.tag b
  K : M'.K = M.K
variable {M' M'' : Wm} {ts us : Tw → Prop} {w'' : World}
theorem FrW.refl (M : Wm) (ts : Tw → Prop) (w : World) : FrW M M ts w w := ⟨rfl, rfl, rfl, Nat.le_refl _, fun _ _ _ => rfl, fun _ _ => rfl, rfl⟩
theorem FrW.trans (h : FrW M M' ts w w') (k : FrW M' M'' ts w' w'') : FrW M M'' ts w w'' :=
  ⟨k.os.trans h.os, k.tape.trans h.tape, k.output.trans h.output, Nat.le_trans h.size k.size, fun b hb hn => (k.block b (Nat.lt_of_lt_of_le hb h.size) (by rw [h.tags b hb]; exact hn)).trans (h.block b hb hn),
    fun b hb => (k.tags b (Nat.lt_of_lt_of_le hb h.size)).trans (h.tags b hb), k.K.trans h.K⟩
theorem FrW.mono (h : FrW M M' ts w w') (hs : ∀ t, ts t → us t) : FrW M M' us w w' :=
  ⟨h.os, h.tape, h.output, h.size, fun b hb hn => h.block b hb (fun e => hn (hs _ e)), h.tags, h.K⟩
theorem FrW.below (h : FrW M M' ts w w') (hs : ¬ ts .free) (hk : KW w n0 M S ex) : Below n0 w w' :=
  ⟨h.os, h.tape, h.output, h.size, fun b hb => h.block b (Nat.lt_of_lt_of_le hb hk.base) (by rw [hk.lo b hb]; exact hs)⟩
theorem FrW.of (hg : w.grownBy w' row) (hr : ∀ b, row = some b → ts (M.tag b)) : FrW M M ts w w' :=
  ⟨hg.os, hg.tape, hg.output, hg.size, fun b hb hn => hg.block b hb (fun e => hn (hr b e.symm)), fun _ _ => rfl, rfl⟩
theorem FrW.drew (h : FrW M M' ts w w') : FrW M M' ts w w'.drew := h.trans ⟨rfl, rfl, rfl, Nat.le_refl _, fun _ _ _ => rfl, fun _ _ => rfl, rfl⟩
theorem FrW.drewN (h : FrW M M' ts w w') (m : Nat) : FrW M M' ts w (w'.drewN m) := h.trans ⟨rfl, rfl, rfl, Nat.le_refl _, fun _ _ _ => rfl, fun _ _ => rfl, rfl⟩
theorem FrW.alloc (h : FrW M M' ts w w') (o : Obj) : FrW M M' ts w (w'.alloc o) := h.trans (FrW.of (World.grownBy_alloc _ _ none) (fun b hb => by cases hb))
theorem FrW.put (w : World) (M : Wm) {ts : Tw → Prop} (a : Addr) (u : Value) (h : ts (M.tag a.block)) : FrW M M ts w (w.setCell a u) :=
  ⟨rfl, rfl, rfl, by simp, fun b _ hn => heap_setCell_other w a b u (fun e => hn (by rw [e]; exact h)), fun _ _ => rfl, rfl⟩
end
end Go.Proofs.Ytlcbfahaapodmaa
