/-
  Layer 10: slices.Backward over properties: what a range over it meets. Own work.
-/
import Derived.Test.YthfholnnkdoagaaMap8
import Derived.Test.YthfholnnkdoagaaPtl8
import Derived.RangeFuncNested
import Derived.RangeFuncBound
import Derived.RangeFuncCalls
import Derived.RangeFuncLeaves
import Derived.Shelf.Abstract
import Derived.WalkKit
import Derived.OwnWalkIn
import Derived.TacticsInMore
import Derived.LoopNIn
import Derived.LoopIn
namespace Go.Proofs.Ythfholnnkdoagaa
set_option linter.unusedVariables false
set_option linter.unusedSimpArgs false
open Go.RowKit Go.Shelf
attribute [local go_sem] Oper.semAt_some

/-- a place, and the property that stands there -/
abbrev Pl := { x : Nat × Pr // x.1 ≤ 1000000 ∧ x.2.n.size ≤ maxLen }
/-- the places that were put, one behind another -/
def plF (pre : List Pl) : ByteArray → Option Nat := pre.foldl (fun f x => putF f x.1.2.n x.1.1) (fun _ => none)
theorem plF_snoc (pre : List Pl) (x : Pl) : plF (pre ++ [x]) = putF (plF pre) x.1.2.n x.1.1 := by simp [plF]
def firstF (l : List Pr) (r : Nat) (t : ByteArray) : Option Nat := ((l.drop r).findIdx? (fun p => eqS p.n t)).map (· + r)
theorem firstF_end (l : List Pr) (t : ByteArray) : firstF l l.length t = none := by simp [firstF]
theorem firstF_zero (l : List Pr) (t : ByteArray) : firstF l 0 t = l.findIdx? (fun p => eqS p.n t) := by simp [firstF]
theorem firstF_step {l : List Pr} {r : Nat} {p : Pr} (hp : l[r]? = some p) (t : ByteArray) : firstF l r t = putF (firstF l (r + 1)) p.n r t := by
  have hr := (List.getElem?_eq_some_iff.1 hp).1
  have he := (List.getElem?_eq_some_iff.1 hp).2
  unfold firstF putF
  rw [List.drop_eq_getElem_cons hr, he, List.findIdx?_cons]
  by_cases h : eqS p.n t = true
  · rw [if_pos h, if_pos h]; simp
  · rw [if_neg h, if_neg h, Option.map_map]
    congr 1
    funext i
    simp; omega
/-- all that lay below n, and one row -/
def KpB (n Bs : Nat) (W W' : World) : Prop := Below n W W' ∧ ∀ cs t, W.heap[Bs]? = some (.cells cs t (0, 0)) → W'.heap[Bs]? = some (.cells cs t (0, 0))
theorem kpB_t {n Bs : Nat} {A B C : World} (h : KpB n Bs A B) (h' : KpB n Bs B C) : KpB n Bs A C := ⟨h.1.trans h'.1, fun cs t hc => h'.2 cs t (h.2 cs t hc)⟩
theorem kpB_b {n Bs m : Nat} (hn : n ≤ m) (W : World) (l : Nat) (o o' : Obj) (hm : m ≤ l) (hl : W.heap[l]? = some o) (ho : o.isCells = false) (_ : o.isWalk = false) : KpB n Bs W (W.putObj l o') :=
  ⟨(Below.refl n W).grown (grownBy_putObj' W l o') (by have := (Array.getElem?_eq_some_iff.1 hl).1; omega) (fun k e => by cases e; omega), fun cs t hc => by
    refine (World.putObj_heap_other (fun e => ?_)).trans hc
    subst e
    rw [hc] at hl
    cases hl
    cases ho⟩
theorem Backward_any (a : Option Addr) (len cap : Nat) (w : World) :
    Calls Try.prog 33 #[.slice a len cap] w fun e w' => e = .returned (.func (.func 45) #[] #[.pointer (some ⟨w.heap.size, 0, none⟩)]) ∧ w' = w.alloc (.cells #[.slice a len cap] 27) := by
  go_enter Try.func33, Try.ntmps33
  go_wp2
  go_ret
  exact ⟨rfl, rfl⟩
set_option maxRecDepth 100000 in
set_option maxHeartbeats 2000000 in
theorem back1_in (F : Fence) (n : Nat) (h34 : F.fn 45) (hro : F.round = none) (hn : 1 ≤ n) (l : Nat) (Bs n0 : Nat) (v : Value) (xs : List Pr) (w0 : World) (hx : RdPs w0 v xs) (h0s : w0.heap.size ≤ n0) (hlen : xs.length ≤ 1000000) (hnm : ∀ p ∈ xs, p.n.size ≤ maxLen)
    (J Jx : List Pl → World → Prop)
    (hY : ∀ pre x W, J pre W → pre.length < xs.length → YieldAt F (n - 1) Try.prog l #[.int .i64 (x.1.1 : Int), .agg #[.string x.1.2.n, .string x.1.2.v]] W fun e W' =>
      (e = .returned (.bool true) ∧ J (pre ++ [x]) W' ∧ KpB n0 Bs W W') ∨ (e = .returned (.bool false) ∧ Jx (pre ++ [x]) W'))
    (W : World) (hb0 : Below w0.heap.size w0 W) (hBs : W.heap[Bs]? = some (.cells #[v] 27 (0, 0))) (h0 : J [] W) :
    CallsIn F n Try.prog 45 #[.func (.yield l) #[] #[], .pointer (some ⟨Bs, 0, none⟩)] W fun e W' => (∃ v, e = .returned v) ∧
      ((∃ ys, (ys.length ≤ xs.length ∧ ∀ t, plF ys t = xs.findIdx? (fun p => eqS p.n t)) ∧ J ys W') ∨ (∃ pre, True ∧ Jx pre W')) := by
  obtain ⟨xa, xc, rfl⟩ := RdSl.shape hx
  have hlI : (xs.length : Int) ≤ 1000000 := by omega
  have HX := Lib.hid hx
  have HNM := Lib.hid hnm
  have HB0 := Lib.hid hb0
  have HBS := Lib.hid hBs
  clear hx hnm hb0 hBs
  have s0 : W.cell? ⟨Bs, 0, none⟩ = some (.slice xa xs.length xc) := by rw [cell_of_row W Bs 0 _ _ (0, 0) HBS.out]; rfl
  have hwr : IntKind.i64.wrap ((xs.length : Int) - 1) = (xs.length : Int) - 1 := IntWalk.i64_in _ (by omega)
  refine callsIn_of_wp Try.func45 rfl h34 ?_ hro
  simp only [Try.ntmps45, List.size_toArray, List.length_cons, List.length_nil, Nat.reduceAdd, Nat.reduceSub, Array.replicate_succ, Array.replicate_zero, List.push_toArray, List.append_toArray, List.nil_append, List.cons_append]
  gi_wp2
  gi_loopw [3] (fun i wr => ∃ (r : Nat) (I : Int) (pre : List Pl), r ≤ xs.length ∧ i = .int .i64 I ∧ I = (r : Int) - 1 ∧ pre.length + r = xs.length ∧ (∀ t, plF pre t = firstF xs r t) ∧ J pre wr ∧ KpB n0 Bs W wr) (fun i _ => (intOf i + 1).toNat)
  case atStart => exact ⟨xs.length, _, [], Nat.le_refl _, rfl, rfl, by simp, fun t => (firstF_end xs t).symm, h0, ⟨Below.refl _ _, fun cs t hc => hc⟩⟩
  case round =>
    obtain ⟨r, I, pre, hr, rfl, hI, hpl, hpf, hJs, hkp⟩ := hrel
    have HPF := Lib.hid hpf
    have HKP := Lib.hid hkp
    clear hpf hkp s0 hwr
    cases r with
    | zero =>
      have hI' : ¬ (0 ≤ I) := by omega
      clear hI
      gi_wp2
      go_end0
      exact ⟨⟨_, rfl⟩, .inl ⟨pre, ⟨by omega, fun t => by rw [HPF.out t, firstF_zero]⟩, hJs⟩⟩
    | succ r =>
      have hI' : I = (r : Int) := by omega
      subst hI'
      clear hI
      obtain ⟨x, hx⟩ : ∃ x, xs[r]? = some x := ⟨_, List.getElem?_eq_getElem (by omega)⟩
      have HBW := Lib.hid (HB0.out.trans (HKP.out.1.mono h0s))
      obtain ⟨a1, e1, p0, p1⟩ := RdSl.elem (HX.out.below HBW.out (Nat.le_refl _)) hx
      subst e1
      have s1 : wr.cell? ⟨Bs, 0, none⟩ = some (.slice (some a1) xs.length xc) := by rw [cell_of_row wr Bs 0 _ _ (0, 0) (HKP.out.2 _ _ HBS.out)]; rfl
      have hrl : r < xs.length := by omega
      have hrI : (r : Int) < (xs.length : Int) := by omega
      have hr0 : (0 : Int) ≤ (r : Int) := by omega
      have hw1 : IntKind.i64.wrap ((r : Int) - 1) = (r : Int) - 1 := IntWalk.i64_in _ (by omega)
      have HX1 := Lib.hid (fun t => firstF_step hx t)
      obtain ⟨X, hXp⟩ : ∃ X : Pl, X.1 = (r, x) := ⟨⟨(r, x), by show r ≤ 1000000; omega, HNM.out x (List.mem_of_getElem? hx)⟩, rfl⟩
      have hy0 := hY pre X wr hJs (by omega)
      have HXP := Lib.hid hXp
      rw [hXp] at hy0
      obtain ⟨fn, tmps, assign, body, hy, hR⟩ := hy0
      dsimp only at hy
      clear hx hXp
      gi_wp2
      refine hR.mono ?_
      rintro e W3 (⟨rfl, hJ3, hk3⟩ | ⟨rfl, hJx3⟩)
      · gi_wp2
        go_roundw
        case rel => exact ⟨r, _, _, by omega, rfl, rfl, by simp; omega, fun t => by rw [plF_snoc, HXP.out, HX1.out t]; unfold putF; rw [HPF.out t], hJ3, kpB_t HKP.out hk3⟩
        case measure => simp [intOf]
      · gi_wp2
        refine bodyPost_ret (results_none rfl _ _ _) rfl ?_
        exact ⟨⟨_, rfl⟩, .inr ⟨_, trivial, hJx3⟩⟩
end Go.Proofs.Ythfholnnkdoagaa
