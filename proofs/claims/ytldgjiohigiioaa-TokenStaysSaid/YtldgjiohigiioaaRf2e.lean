/-
  Layer 2: attributes as the answer reads them (on lists); what is kept while it does. Own work.
-/
import Derived.Test.YtldgjiohigiioaaRf2d
import Derived.Test.YtldgjiohigiioaaOpen2
import Derived.Test.YtldgjiohigiioaaErr2
namespace Go.Proofs.Ytldgjiohigiioaa
set_option linter.unusedVariables false
set_option linter.unusedSimpArgs false
open Go.RowKit

/-- at a text's end it is the caller who finds it -/
def attrsR : Nat → List At2 → List UInt8 → Rs (List At2)
  | 0, ats, r => .ok ats r
  | f + 1, ats, r =>
    if blanksM r = r then .ok ats r
    else match blanksM r with
      | [] => .ok ats []
      | c :: r1 => if c = 47 || c = 62 then .ok ats (c :: r1) else (attrM ats (c :: r1)).bind fun a r2 => attrsR f (ats ++ [a]) r2
theorem blanks_lt {r : List UInt8} (h : blanksM r ≠ r) : (blanksM r).length < r.length := by
  rcases Nat.lt_or_ge (blanksM r).length r.length with h1 | h1
  · exact h1
  · exact absurd ((blanks_left r).eq_of_length (by have := blanks_len r; omega)) h
theorem attrs_end (n : List UInt8) : ∀ (f : Nat) (ats : List At2) (r : List UInt8), r.length < f → (attrsM f ats r).bind (endM n) = (attrsR f ats r).bind (endM n)
  | 0, ats, r, h => by omega
  | f + 1, ats, r, h => by
    rw [attrsM, attrsR]
    by_cases hb : blanksM r = r
    · rw [if_pos hb, if_pos hb]
    · rw [if_neg hb, if_neg hb]
      have hlt := blanks_lt hb
      generalize blanksM r = rb at hlt
      cases rb with
      | nil => rfl
      | cons c r1 =>
        by_cases hc : (decide (c = 47) || decide (c = 62)) = true
        · show (ite _ _ _ : Rs (List At2)).bind _ = (ite _ _ _ : Rs (List At2)).bind _
          rw [if_pos hc, if_pos hc]
        · show (ite _ _ _ : Rs (List At2)).bind _ = (ite _ _ _ : Rs (List At2)).bind _
          rw [if_neg hc, if_neg hc]
          cases hA : attrM ats (c :: r1) with
          | bad e r2 => rfl
          | ok a r2 =>
            have := attr_len hA
            exact attrs_end n f (ats ++ [a]) r2 (by omega)
theorem openM_eqR (r : List UInt8) : openM r = (nameM 11 r).bind fun n r1 => (attrsR (r1.length + 1) [] r1).bind (endM n) := by
  rw [openM_eq]
  congr 1
  funext n r1
  exact attrs_end n _ _ _ (by omega)
/-- at the end of the text, inside quotes -/
def closeL : Rs (List UInt8) → Rs (List UInt8)
  | .ok v [] => .bad 13 []
  | .ok v (c :: r) => .ok v (c :: r)
  | .bad e r => .bad e r
theorem let_close {stop : UInt8} : ∀ (f : Nat) (acc r : List UInt8), r.length < f → letM stop false f acc r = closeL (letM stop true f acc r)
  | 0, acc, r, h => by omega
  | f + 1, acc, [], h => rfl
  | f + 1, acc, c :: r, h => by
    by_cases hc : c = stop
    · rw [letM, letM, if_pos hc, if_pos hc]; rfl
    · by_cases h38 : c = 38
      · obtain ⟨⟨x, n, y⟩, hxy⟩ : ∃ z, refS (c :: r) = z := ⟨_, rfl⟩
        rw [let_ref hc h38 hxy, let_ref hc h38 hxy]
        by_cases hy : y = 0
        · subst hy
          have hs := refS_small hxy
          rw [if_pos rfl, if_pos rfl]
          refine let_close f _ _ ?_
          rw [List.length_drop]
          simp only [List.length_cons] at hs h ⊢
          omega
        · rw [if_neg hy, if_neg hy]; rfl
      · rw [letM, letM, if_neg hc, if_neg hc, if_neg h38, if_neg h38]
        split
        · rfl
        · exact let_close f _ _ (by simp only [List.length_cons] at h; omega)
/-- on the way: the answer's reader in X, attributes so far in va -/
structure RA (w : World) (X : Nat) (l r : List UInt8) (c o : Int) (ats : List At2) (va : Value) (wk : World) : Prop where
  rr : RR wk X l r c o
  fr : FrX w.heap.size X w wk
  own : wk.ownsRow w.heap.size 46 2 va ats.length (rowAs ats)
  hX : X < w.heap.size
section
variable {w wk wk' : World} {X : Nat} {l r r' : List UInt8} {c o c' o' : Int} {ats : List At2} {va : Value}
theorem RA.mv (h : RA w X l r c o ats va wk) (hm : RM X l r' c' o' wk wk') : RA w X l r' c' o' ats va wk' :=
  ⟨hm.1, h.fr.trans (FrX.ofGrown hm.2 h.fr.size), own_x h.own hm.2 h.hX, h.hX⟩
theorem RA.below (h : RA w X l r c o ats va wk) (hb : Below wk.heap.size wk wk') : RA w X l r c o ats va wk' :=
  ⟨h.rr.below hb, h.fr.trans (FrX.ofBelow (hb.mono h.fr.size)), own_belowG h.own hb, h.hX⟩
theorem RA.push {v' : Value} {a : At2} (h : RA w X l r c o ats va wk) (ho : wk'.ownsRow w.heap.size 46 2 v' (ats.length + 1) (rowAs ats ++ atL a)) (hb : Below w.heap.size wk wk') : RA w X l r c o (ats ++ [a]) v' wk' :=
  ⟨⟨h.rr.1, (hb.block X h.hX).trans h.rr.2⟩, h.fr.trans (FrX.ofBelow hb), by rw [List.length_append, List.length_singleton, rowAs_snoc]; exact ho, h.hX⟩
theorem RA.rm (h : RA w X l r c o ats va wk) : RM X l r c o w wk := ⟨h.rr, h.fr.grown⟩
theorem RA.rd (h : RA w X l r c o ats va wk) : RdAs wk va ats := RdAs.of_own h.own
end
/-- an attribute behind a row of one's own -/
theorem appA2 {ops : Array Oper} {rest : List Oper} {o : Oper} {a : Act} {Q : Exit → Act → World → Prop} {w0 : World} (p : At2) (hgd : o.guard = none) (s x : Operand)
    (ho : o.op = .call { callee := .builtin .append, args := #[s, x], argTypes := #[32, 32] }) (base n : Nat)
    (v : Value) (xs : List Value) (hs : a.eval s = v) (hown : w0.ownsRow base 46 2 v n xs) (hx : a.eval x = .slice (some ⟨w0.heap.size, 0, none⟩) 1 1)
    (h63 : n ≤ 10000000) (hbase : base ≤ w0.heap.size)
    (h : ∀ v' w', w'.ownsRow base 46 2 v' (n + 1) (xs ++ atL p) → Below base w0 w' → wpList Try.prog ops Q rest (a.put o.dst v') w') :
    wpList Try.prog ops Q (o :: rest) a (w0.alloc (.cells #[.string (str p.1), .string (str p.2)] 46)) := by
  obtain ⟨i, hi, hz, hsize, hby⟩ := info_parts attr_info
  have hlt : ∀ k, v.ownBlock = some k → base ≤ k := fun k hk => (hown.lt k hk).1
  refine wpList_append_own _ hgd s x _ ho base 46 i _ 2 32 Try.underlying32 hi hz hsize hby rfl (by omega) v n xs hs (hown.alloc _) ⟨w0.heap.size, 0, none⟩ 1 1 (atL p) hx rfl ?_ ?_ (by simp only [maxLen]; omega) (by omega) (by simp; omega) ?_
  · intro j y hj
    rw [show (⟨w0.heap.size, 0, none⟩ : Addr).add j = ⟨w0.heap.size, j, none⟩ by unfold Addr.add; split <;> simp_all, World.cell?_alloc_at _ _ _ _ rfl]
    simpa [atL] using hj
  · intro u hu
    simp only [atL, List.mem_cons, List.not_mem_nil, or_false] at hu
    rcases hu with rfl | rfl <;> rfl
  · intro v' w' ho' hg _
    have hg0 : w0.grownBy w' v.ownBlock := ⟨hg.os, hg.tape, hg.output, Nat.le_trans (by simp) hg.size, fun k hk hne => (hg.block k (by simp; omega) hne).trans (Below.heap_alloc _ _ _ hk)⟩
    exact h v' w' ho' ((Below.refl _ _).grown hg0 hbase hlt)
/-- what attrs leaves -/
def RfA (X : Nat) (l : List UInt8) (M : Rs (List At2)) (w : World) (e : Ending) (w' : World) : Prop :=
  match M with
  | .ok ats r => ∃ va, e = .returned va ∧ RA w X l r 0 0 ats va w'
  | .bad c r => e = .returned (.slice none 0 0) ∧ ∃ r', RM X l r' c ((l.length - r.length : Nat) : Int) w w'
/-- a name, or something that went wrong -/
theorem name_two {X : Nat} {l r : List UInt8} {e0 : Int} {w w' : World} {e : Ending} (he0 : e0 ≠ 0) (h : RfP X l (nameM e0 r) (fun n => .string (str n)) (.string (str [])) w e w') :
    ∃ n c0 o0 r1, e = .returned (.string (str n)) ∧ RM X l r1 c0 o0 w w' ∧ ((c0 = 0 ∧ o0 = 0 ∧ nameM e0 r = .ok n r1) ∨ (c0 ≠ 0 ∧ n = [] ∧ ∃ r5, nameM e0 r = .bad c0 r5 ∧ o0 = ((l.length - r5.length : Nat) : Int))) := by
  cases hM : nameM e0 r with
  | ok n r1 => rw [hM] at h; exact ⟨n, 0, 0, r1, h.1, h.2, .inl ⟨rfl, rfl, rfl⟩⟩
  | bad c r5 =>
    rw [hM] at h
    obtain ⟨h1, r', h2⟩ := h
    exact ⟨[], c, _, r', h1, h2, .inr ⟨ne_name he0 r _ _ hM, rfl, r5, rfl, rfl⟩⟩
/-- the error behind some of the attributes ahead -/
def dupC (c0 : Int) (b : Bool) : Int := if c0 = 0 then (if b then 15 else 0) else c0
def dupO (c0 o0 at0 : Int) (b : Bool) : Int := if c0 = 0 then (if b then at0 else 0) else o0
theorem dup_0 {c0 o0 at0 : Int} (h : c0 = 0 → o0 = 0) : dupC c0 false = c0 ∧ dupO c0 o0 at0 false = o0 := by
  unfold dupC dupO
  by_cases hc : c0 = 0
  · simp [hc, h hc]
  · simp [hc]
theorem dup_stay {c0 o0 at0 : Int} {b : Bool} (hc : dupC c0 b ≠ 0) : dupC c0 true = dupC c0 b ∧ dupO c0 o0 at0 true = dupO c0 o0 at0 b := by
  unfold dupC dupO at *
  by_cases h : c0 = 0
  · rw [if_pos h] at hc
    cases b
    · exact absurd rfl hc
    · exact ⟨rfl, rfl⟩
  · simp [h]
theorem dup_new {c0 o0 at0 : Int} {b : Bool} (hc : dupC c0 b = 0) : dupC c0 true = 15 ∧ dupO c0 o0 at0 true = at0 := by
  unfold dupC dupO at *
  by_cases h : c0 = 0
  · simp [h]
  · rw [if_neg h] at hc; exact absurd hc h
theorem any_snoc2 {ats : List At2} {q : Nat} {x : At2} {n : List UInt8} (hx : ats[q]? = some x) : (ats.take (q + 1)).any (fun a => a.1 == n) = ((ats.take q).any (fun a => a.1 == n) || (x.1 == n)) := by
  rw [List.take_add_one, hx, List.any_append]
  simp
end Go.Proofs.Ytldgjiohigiioaa
