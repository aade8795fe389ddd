/-
  Layer 29: both. Own work.
-/
import Derived.Test.YtlcbfahaapodmaaTw29
namespace Go.Proofs.Ytlcbfahaapodmaa
set_option linter.unusedVariables false
set_option linter.unusedSimpArgs false
open Go.RowKit

/-- clause number i has literal n -/
def addS (i : Nat) (S : Ws) (n : Int) : Ws := { S with st := fun a => if a = posN S.vars n then S.st a ++ [i] else S.st a, cn := fun a => if a = posN S.vars n then S.cn a + 1 else S.cn a }
def bothI (S : Ws) (i : Nat) : Ws := if taut (S.L.getD i []) then { S with G := S.G.set i true } else (S.L.getD i []).foldl (addS i) S
def bothTo (S : Ws) (i : Nat) : Ws := (List.range i).foldl bothI { S with pl := true }
theorem bothTo_succ (S : Ws) (i : Nat) : bothTo S (i + 1) = bothI (bothTo S i) i := by simp [bothTo, List.range_succ]
theorem adds_same (i : Nat) (S : Ws) (c : List Int) : (c.foldl (addS i) S) = { S with st := (c.foldl (addS i) S).st, cn := (c.foldl (addS i) S).cn } := by
  induction c using snoc_ind with
  | h0 => rfl
  | h1 l n ih =>
    rw [List.foldl_append]
    show addS i (l.foldl (addS i) S) n = _
    generalize l.foldl (addS i) S = T at ih ⊢
    rw [ih]
    rfl
theorem bothI_same (S : Ws) (i : Nat) : bothI S i = { S with G := (bothI S i).G, st := (bothI S i).st, cn := (bothI S i).cn } := by
  unfold bothI
  split
  · rfl
  · rw [adds_same]
theorem bothTo_same (S : Ws) (i : Nat) : bothTo S i = { S with pl := true, G := (bothTo S i).G, st := (bothTo S i).st, cn := (bothTo S i).cn } := by
  induction i with
  | zero => rfl
  | succ i ih =>
    rw [bothTo_succ]
    generalize bothTo S i = T at ih ⊢
    rw [bothI_same, ih]
/-- counts are lengths -/
def CntLen (S : Ws) (m : Nat) : Prop := ∀ a, S.cn a = ((S.st a).length : Int) ∧ (S.st a).length ≤ m
theorem CntLen.add {S : Ws} {m : Nat} (h : CntLen S m) (i : Nat) (n : Int) : CntLen (addS i S n) (m + 1) := by
  intro a
  obtain ⟨h1, h2⟩ := h a
  show (if a = posN S.vars n then S.cn a + 1 else S.cn a) = (((if a = posN S.vars n then S.st a ++ [i] else S.st a).length : Nat) : Int) ∧ (if a = posN S.vars n then S.st a ++ [i] else S.st a).length ≤ m + 1
  by_cases ha : a = posN S.vars n
  · rw [if_pos ha, if_pos ha, List.length_append, List.length_singleton]; omega
  · rw [if_neg ha, if_neg ha]; omega
theorem CntLen.adds {S : Ws} {m : Nat} (h : CntLen S m) (i : Nat) (c : List Int) : CntLen (c.foldl (addS i) S) (m + c.length) := by
  induction c using snoc_ind with
  | h0 => exact h
  | h1 l n ih =>
    rw [List.foldl_append, List.length_append]
    exact ih.add i n
theorem CntLen.mono {S : Ws} {m k : Nat} (h : CntLen S m) (hk : m ≤ k) : CntLen S k := fun a => ⟨(h a).1, Nat.le_trans (h a).2 hk⟩
theorem CntLen.both {S : Ws} {m : Nat} (h : CntLen S m) (i : Nat) : CntLen (bothI S i) (m + (S.L.getD i []).length) := by
  unfold bothI
  split
  · exact (show CntLen { S with G := S.G.set i true } m from h).mono (by omega)
  · exact h.adds i _
theorem sizeC_take {L : Cs} {i : Nat} {c : List Int} (h : L[i]? = some c) : sizeC (L.take (i + 1)) = sizeC (L.take i) + (c.length + 1) := by
  rw [take_snoc _ i c h, sizeC_app]
  simp [sizeC]
theorem sizeC_take_le (L : Cs) (i : Nat) : sizeC (L.take i) ≤ sizeC L := by
  have := sizeC_app (L.take i) (L.drop i)
  rw [List.take_append_drop] at this
  omega
section
variable {w w1 : World} {n0 : Nat} {M : Wm} {S : Ws} {ex : Tw → Prop}
/-- a list of clauses behind an append, and its header in the list of lists -/
theorem KW.newSt (h : KW w n0 M S noW) {a g cap : Nat} {l' : List Nat} {v' : Value} (ha : a < wide S) (hl : M.hd .std = .slice (some ⟨g, 0, none⟩) (wide S) cap) (hg : w.grownBy w1 (M.hd (.st a)).ownBlock)
    (hr : w1.ownsRow n0 3 1 v' l'.length (l'.map nV)) (hat : v'.ownBlock = (M.hd (.st a)).ownBlock ∨ ∃ q, v'.ownBlock = some q ∧ w.heap.size ≤ q ∧ q < w1.heap.size) :
    KW w1 n0 M S (orW noW (.st a)) ∧ ∃ f, KW (w1.setCell ⟨g, a, none⟩ v') n0 ⟨M.K, putH M.hd (.st a) v', f⟩ { S with st := fun b => if b = a then l' else S.st b } noW ∧ FrW M ⟨M.K, putH M.hd (.st a) v', f⟩ (fun t => t = .std ∨ t = .st a) w (w1.setCell ⟨g, a, none⟩ v') := by
  obtain ⟨f, hk1, hf1, hf2⟩ := h.grow (t := .st a) rfl rfl hg hat
  have hk0 : KW w1 n0 M S (orW noW (.st a)) := h.keep hg (fun s _ hx => hx.elim .inl (fun ⟨b, hb, hs⟩ => .inr (by rw [← hs]; exact h.thn rfl rfl hb)))
  have hno : ∀ t, t ≠ .st a → ¬ orW noW (.st a) t := fun t h1 h2 => h2.elim (fun h => h) h1
  have ho : w1.ownsRow n0 27 1 (M.hd .std) (wide S) ((List.range (wide S)).map fun i => M.hd (.st i)) := by
    have := (hk1.row .std rfl (hno _ (by simp))).own (.inl rfl)
    rw [show ctW S ({ M with tag := f } : Wm).hd .std = (List.range (wide S)).map fun i => M.hd (.st i) from rfl, List.length_map, List.length_range] at this
    exact this
  rw [hl] at ho
  obtain ⟨ho2, hg2⟩ := ho.stored a v'
  have htg : f g = .std := hk1.thn (t := .std) rfl rfl (by show (M.hd .std).ownBlock = _; rw [hl]; rfl)
  have hk2 := hk1.keep (ex' := orW (orW noW (.st a)) .std) hg2 (fun s _ hs => hs.elim .inl (fun ⟨b, hb, hs⟩ => .inr (by rw [← hs, ← Option.some.inj hb]; exact htg)))
  have hne : ∀ s, s ≠ .st a → s ≠ .std → ¬ orW (orW noW (.st a)) .std s := fun s h1 h2 h3 => h3.elim (hno s h1) h2
  have htop : topW { S with st := fun b => if b = a then l' else S.st b } (putH M.hd (.st a) v') = topW S M.hd := by unfold topW; simp [putH]
  refine ⟨hk0, f, hk2.to (ex' := noW) rfl rfl (fun e => e) (fun e => ?_) (fun s hs e => ?_) (fun s b hs hb => ?_), ⟨hg2.os.trans hg.os, hg2.tape.trans hg.tape, hg2.output.trans hg.output, Nat.le_trans hg.size hg2.size, fun b hb hn => ?_, hf2, rfl⟩⟩
  · rw [htop]
    exact hk2.top (hne _ (by simp) (by simp))
  · by_cases hsl : s = .std
    · subst hsl
      refine .inr (.inl ?_)
      have e1 : ctW { S with st := fun b => if b = a then l' else S.st b } (putH M.hd (.st a) v') .std = ((List.range (wide S)).map fun i => M.hd (.st i)).set a v' := by
        show (List.range (wide S)).map (fun i => putH M.hd (.st a) v' (.st i)) = _
        rw [range_set]
        congr 1
        funext i
        unfold putH
        by_cases hik : i = a
        · rw [if_pos (by rw [hik]), if_pos hik]
        · rw [if_neg (by simpa using hik), if_neg hik]
      show World.ownsRow _ n0 (tyW .std) 1 (putH M.hd (.st a) v' .std) (ctW { S with st := fun b => if b = a then l' else S.st b } (putH M.hd (.st a) v') .std).length (ctW { S with st := fun b => if b = a then l' else S.st b } (putH M.hd (.st a) v') .std)
      rw [e1, putH_ne _ _ (by simp), hl, List.length_set, List.length_map, List.length_range]
      exact ho2
    · by_cases hsk : s = .st a
      · subst hsk
        refine .inr (.inl ?_)
        have e1 : ctW { S with st := fun b => if b = a then l' else S.st b } (putH M.hd (.st a) v') (.st a) = l'.map nV := by
          show (if a = a then l' else S.st a).map nV = _
          rw [if_pos rfl]
        show World.ownsRow _ n0 (tyW (.st a)) 1 (putH M.hd (.st a) v' (.st a)) (ctW { S with st := fun b => if b = a then l' else S.st b } (putH M.hd (.st a) v') (.st a)).length (ctW { S with st := fun b => if b = a then l' else S.st b } (putH M.hd (.st a) v') (.st a))
        rw [e1, putH_same, List.length_map]
        refine World.ownsRow.kept hr hg2 ?_
        cases hb : v'.ownBlock with
        | none => exact .inl rfl
        | some b => exact .inr (fun e => by
            have e2 := hf1 b hb
            rw [Option.some.inj e, htg] at e2
            cases e2)
      · refine .inl ⟨hne s hsk hsl, putH_ne _ _ hsk, ?_⟩
        cases s with
        | st i =>
          have hik : i ≠ a := fun e => hsk (by rw [e])
          show (if i = a then l' else S.st i).map nV = (S.st i).map nV
          rw [if_neg hik]
        | lst =>
          show (List.range S.L.length).map (fun i => putH M.hd (.st a) v' (.cl i)) = (List.range S.L.length).map fun i => M.hd (.cl i)
          congr 1
        | std => exact absurd rfl hsl
        | _ => rfl
  · by_cases hsk : s = .st a
    · subst hsk
      right
      have hb2 : (putH M.hd (.st a) v' (.st a)).ownBlock = some b := hb
      rw [putH_same] at hb2
      exact hf1 b hb2
    · left; exact putH_ne _ _ hsk
  · have hbg : b ≠ g := fun e => hn (by rw [e]; exact .inl (h.thn (t := .std) rfl rfl (by rw [hl]; rfl)))
    exact (hg2.block b (Nat.lt_of_lt_of_le hb hg.size) (fun e => hbg (Option.some.inj e))).trans (hg.block b hb (fun e => hn (.inr (h.thn rfl rfl e.symm))))
/-- one number more behind a list of clauses, a step of a region that draws -/
theorem step_appS {ops : Array Oper} {E : Prop} {o : Oper} {a : Act} {K : Act → World → Prop} {Q : Exit → Act → World → Prop} (hgd : o.guard = none) (s x : Operand)
    (ho : o.op = .call { callee := .builtin .append, args := #[s, x], argTypes := #[27, 27] }) (w2 : World) (u : Nat) {base n : Nat} {v : Value} {xs : List Value} (hsv : a.eval s = v) (hx : a.eval x = .slice (some ⟨w2.heap.size, 0, none⟩) 1 1)
    (hown : w2.ownsRow base 3 1 v n xs) (hn : n ≤ 1000000) (hbase : base ≤ w2.heap.size)
    (hK : ∀ g cap w', w'.ownsRow base 3 1 (.slice (some ⟨g, 0, none⟩) (n + 1) cap) (n + 1) (xs ++ [nV u]) → w2.grownBy w' v.ownBlock → (v.ownBlock = some g ∨ (w2.heap.size ≤ g ∧ g < w'.heap.size)) → K (a.put o.dst (.slice (some ⟨g, 0, none⟩) (n + 1) cap)) w') :
    if Region.wanted o (yielded ops a.tmps) = true then Oper.wp Try.prog o a (w2.alloc (.cells #[.int .i64 (u : Int)] 3)) K Q else E := by
  obtain ⟨i, hi, hz, hsize, hby⟩ := info_parts int29_info
  refine step_append_lies _ hgd s x 27 ho base 3 i _ 1 8 Try.underlying27 hi hz hsize hby rfl (by omega) v n xs hsv (hown.alloc _) ⟨w2.heap.size, 0, none⟩ 1 1 [nV u] hx rfl (cell_one_new w2 _ _) (by simp [Value.oneCell', nV]) (by omega) (by simp only [maxLen]; omega) (by omega) (by simp; omega) _ rfl ?_
  intro g cap w' h2 h3 h4 h5
  refine hK g cap w' h2 ⟨h3.os, h3.tape, h3.output, Nat.le_trans (by simp) h3.size, fun k hk hne => (h3.block k (by simp; omega) hne).trans (Below.heap_alloc _ _ _ hk)⟩ ?_
  rcases h4 with h4 | h4
  · exact .inl h4
  · exact .inr ⟨by rw [h4]; simp, (h2.lt g rfl).2⟩
end
end Go.Proofs.Ytlcbfahaapodmaa
