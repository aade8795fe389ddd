/-
  Layer 29: what is there behind fix and single. Own work.
-/
import Derived.Test.YtlcbfahaapodmaaLm29
namespace Go.Proofs.Ytlcbfahaapodmaa
set_option linter.unusedVariables false
set_option linter.unusedSimpArgs false

theorem alive_filter (p : List Int → Bool) : ∀ (L : Cs) (G G' : List Bool), G.length = L.length → G'.length = L.length → (∀ (j : Nat) c, L[j]? = some c → G[j]? = some false → G'[j]? = some (!p c)) → (∀ j : Nat, G[j]? = some true → G'[j]? = some true) → alive L G' = (alive L G).filter p
  | [], _, _, _, _, _, _ => by simp [alive]
  | c :: L, [], _, h, _, _, _ => by simp at h
  | c :: L, _ :: _, [], _, h, _, _ => by simp at h
  | c :: L, g :: G, g' :: G', h1, h2, h3, h4 => by
    have ih := alive_filter p L G G' (by simpa using h1) (by simpa using h2) (fun j d hd hg => by simpa using h3 (j + 1) d (by simpa using hd) (by simpa using hg)) (fun j hg => by simpa using h4 (j + 1) (by simpa using hg))
    cases g with
    | true =>
      have := h4 0 rfl
      simp at this
      subst this
      simp [alive, ih]
    | false =>
      have := h3 0 c rfl rfl
      simp at this
      subst this
      cases hp : p c <;> simp [alive, ih, hp]
theorem alive_map (f : List Int → List Int) : ∀ (L L' : Cs) (G : List Bool), L'.length = L.length → (∀ (j : Nat) c, L[j]? = some c → G[j]? = some false → L'[j]? = some (f c)) → alive L' G = (alive L G).map f
  | [], L', G, h, _ => by
    have : L' = [] := List.eq_nil_of_length_eq_zero (by simpa using h)
    subst this
    simp [alive]
  | c :: L, [], G, h, _ => by simp at h
  | c :: L, c' :: L', [], _, _ => by simp [alive]
  | c :: L, c' :: L', g :: G, h, h3 => by
    have ih := alive_map f L L' G (by simpa using h) (fun j d hd hg => by simpa using h3 (j + 1) d (by simpa using hd) (by simpa using hg))
    cases g with
    | true => simp [alive, ih]
    | false =>
      have := h3 0 c rfl rfl
      simp at this
      subst this
      simp [alive, ih]
/-- where literals stood -/
structure StI (S : Ws) : Prop where
  comp : ∀ (i : Nat) c, S.L[i]? = some c → S.G[i]? = some false → ∀ n ∈ c, i ∈ S.st (posN S.vars n)
  sound : ∀ n : Int, hasL (alive S.L S.G) n = true → ∀ (k : Nat) c, k ∈ S.st (posN S.vars n) → S.L[k]? = some c → S.G[k]? = some false → n ∈ c
  lt : ∀ a, ∀ k ∈ S.st a, k < S.L.length
  up : ∀ a, (S.st a).Pairwise (· < ·)
theorem StI.stLen {S : Ws} (h : StI S) (a : Nat) : (S.st a).length ≤ S.L.length := by
  have hn : (S.st a).Nodup := (h.up a).imp (fun h => Nat.ne_of_lt h)
  have := List.Nodup.length_le_of_subset hn (l₂ := List.range S.L.length) (fun k hk => List.mem_range.2 (h.lt a k hk))
  simpa using this
/-- which clauses are there when n is fixed -/
theorem alive_fixS {S : Ws} (hg : Gd S) (h : StI S) {n : Int} (hn : hasL (alive S.L S.G) n = true) : alive (fixS S n).L (fixS S n).G = (alive S.L S.G).filter fun c => !decide (n ∈ c) := by
  have hs := dropsS_same { S with fx := S.fx ++ [n] } (S.st (posN S.vars n))
  have hL : (fixS S n).L = S.L := hs.1
  have hG : (fixS S n).G.length = S.G.length := hs.2.2.2.2.2
  rw [hL]
  refine alive_filter _ S.L S.G _ hg.gl (by rw [hG]; exact hg.gl) (fun j c hc hgj => ?_) (fun j hgj => ?_)
  · have e := dropsS_gone { S with fx := S.fx ++ [n] } (S.st (posN S.vars n)) j
    have e' : (fixS S n).G[j]? = (S.G[j]?).map fun b => b || decide (j ∈ S.st (posN S.vars n)) := e
    rw [e', hgj]
    simp only [Option.map_some, Bool.false_or, Option.some.injEq, Bool.not_not]
    by_cases hm : n ∈ c
    · rw [decide_eq_true hm, decide_eq_true (h.comp j c hc hgj n hm)]
    · rw [decide_eq_false hm, decide_eq_false (fun hk => hm (h.sound n hn j c hk hc hgj))]
  · have e := dropsS_gone { S with fx := S.fx ++ [n] } (S.st (posN S.vars n)) j
    have e' : (fixS S n).G[j]? = (S.G[j]?).map fun b => b || decide (j ∈ S.st (posN S.vars n)) := e
    rw [e', hgj]
    simp
theorem filter_id {c : List Int} {m : Int} (h : m ∉ c) : (c.filter fun x => x != m) = c := List.filter_eq_self.2 fun x hx => by
  have : x ≠ m := fun e => h (e ▸ hx)
  simpa using this
/-- step 5 -/
theorem alive_lone {S : Ws} (hg : Gd S) (h : StI S) {n : Int} (hn : loneW S = some n) : alive (fixS S n).L (fixS S n).G = fixC n (alive S.L S.G) := by
  rw [loneW_eq hg] at hn
  obtain ⟨h1, h2, _⟩ := loneM_spec hn
  rw [alive_fixS hg h h1]
  unfold fixC
  have : ∀ c ∈ (alive S.L S.G).filter (fun c => !decide (n ∈ c)), (c.filter fun x => x != -n) = c := fun c hc => by
    refine filter_id fun hm => ?_
    have hc2 := (List.mem_filter.1 hc).1
    unfold hasL at h2
    have := List.any_eq_false.1 h2 c hc2
    simp [hm] at this
  rw [List.map_congr_left this, List.map_id']
/-- literal n out of a clause -/
def er (n : Int) (c : List Int) : List Int := if n ∈ c then c.eraseIdx (c.idxOf n) else c
theorem er_filter {n : Int} : ∀ {c : List Int}, c.Nodup → er n c = c.filter fun x => x != n
  | [], _ => by simp [er]
  | x :: c, h => by
    have h1 := List.nodup_cons.1 h
    by_cases hx : x = n
    · subst hx
      have : er x (x :: c) = c := by simp [er]
      rw [this, List.filter_cons, if_neg (by simp), filter_id h1.1]
    · have ih := er_filter (n := n) h1.2
      have hne : (x != n) = true := by simpa using hx
      rw [List.filter_cons, if_pos hne, ← ih]
      unfold er
      by_cases hm : n ∈ c
      · rw [if_pos (by simp [hm]), if_pos hm, List.idxOf_cons, show (x == n) = false from by simpa using hx]
        rfl
      · rw [if_neg (by simp [hm]; exact fun e => hx e.symm), if_neg hm]
theorem cutS_L (n : Int) (S : Ws) (k j : Nat) : (cutS n S k).L[j]? = (S.L[j]?).map fun c => if j = k ∧ S.G.getD j false = false then er n c else c := by
  unfold cutS
  by_cases hh : n ∈ S.L.getD k [] ∧ S.G.getD k false = false
  · rw [if_pos hh]
    show (S.L.set k _)[j]? = _
    by_cases hjk : k = j
    · subst hjk
      by_cases hl : k < S.L.length
      · rw [List.getElem?_set_self hl, List.getElem?_eq_getElem hl]
        have e : S.L.getD k [] = S.L[k] := by simp [List.getD, hl]
        rw [e] at hh ⊢
        simp only [Option.map_some, Option.some.injEq]
        rw [if_pos ⟨trivial, hh.2⟩, er, if_pos hh.1]
      · rw [List.getElem?_eq_none (by simp; omega), List.getElem?_eq_none (by omega)]; rfl
    · rw [List.getElem?_set_ne hjk]
      have : ¬ (j = k ∧ S.G.getD j false = false) := fun h => hjk h.1.symm
      cases hq : S.L[j]? with
      | none => rfl
      | some c => simp only [Option.map_some, if_neg this]
  · rw [if_neg hh]
    cases hq : S.L[j]? with
    | none => rfl
    | some c =>
      simp only [Option.map_some, Option.some.injEq]
      by_cases hjk : j = k ∧ S.G.getD j false = false
      · rw [if_pos hjk]
        obtain ⟨rfl, h2⟩ := hjk
        have : n ∉ c := fun hm => hh ⟨by simp [List.getD, hq, hm], h2⟩
        simp [er, this]
      · rw [if_neg hjk]
theorem cutsS_L (n : Int) (S : Ws) (l : List Nat) (hl : l.Nodup) (j : Nat) : (cutsS n S l).L[j]? = (S.L[j]?).map (fun c => if j ∈ l ∧ S.G.getD j false = false then er n c else c) ∧ (cutsS n S l).G = S.G := by
  induction l using snoc_ind with
  | h0 => simp [cutsS]
  | h1 l k ih =>
    have h2 := List.nodup_append.1 hl
    obtain ⟨ih1, ih2⟩ := ih h2.1
    have hk : k ∉ l := fun hk => h2.2.2 k hk k (by simp) rfl
    rw [cutsS_snoc]
    refine ⟨?_, ?_⟩
    · rw [cutS_L, ih1, ih2]
      cases hq : S.L[j]? with
      | none => rfl
      | some c =>
        simp only [Option.map_some, Option.some.injEq]
        by_cases hg : S.G.getD j false = false
        · by_cases hjk : j = k
          · subst hjk; simp [hk]
          · simp [hjk]
        · have : ∀ P : Prop, ¬ (P ∧ S.G.getD j false = false) := fun P h => hg h.2
          rw [if_neg (this _), if_neg (this _), if_neg (this _)]
    · rw [(cutS_same n (cutsS n S l) k).2.2.2.1, ih2]
/-- step 4 -/
theorem alive_single {S : Ws} (hg : Gd S) (h : StI S) (hd : ∀ c ∈ alive S.L S.G, c.Nodup) {n : Int} (hn : hasL (alive S.L S.G) n = true) : alive (singleS S n).L (singleS S n).G = fixC n (alive S.L S.G) := by
  have hs := dropsS_same { S with fx := S.fx ++ [n] } (S.st (posN S.vars n))
  have hL : (fixS S n).L = S.L := hs.1
  have hGl : (fixS S n).G.length = S.G.length := hs.2.2.2.2.2
  have hu : (S.st (posN S.vars (-n))).Nodup := (h.up _).imp (fun h => Nat.ne_of_lt h)
  have hc := fun j => cutsS_L (-n) { fixS S n with ns := S.ns + 1 } (S.st (posN S.vars (-n))) hu j
  have hGG : (singleS S n).G = (fixS S n).G := (hc 0).2
  have hLL : ∀ j, (singleS S n).L[j]? = (S.L[j]?).map fun c => if j ∈ S.st (posN S.vars (-n)) ∧ (fixS S n).G.getD j false = false then er (-n) c else c := fun j => by
    have e1 := (hc j).1
    have e2 : ({ fixS S n with ns := S.ns + 1 } : Ws).L = S.L := hL
    rw [e2] at e1
    exact e1
  have hlen : (singleS S n).L.length = S.L.length := by
    have : ∀ (l : List Nat) (T : Ws), (cutsS (-n) T l).L.length = T.L.length := fun l T => by
      induction l using snoc_ind with
      | h0 => rfl
      | h1 l k ih => rw [cutsS_snoc, (cutS_same _ _ _).1, ih]
    exact (this _ _).trans (congrArg List.length hL)
  rw [hGG, alive_map (fun c => c.filter fun x => x != -n) S.L (singleS S n).L (fixS S n).G hlen (fun j c hcj hgj => ?_)]
  · have := alive_fixS hg h hn
    rw [hL] at this
    rw [this]
    rfl
  · rw [hLL j, hcj]
    simp only [Option.map_some, Option.some.injEq]
    have hg0 : (fixS S n).G.getD j false = false := by simp [List.getD, hgj]
    have hSg : S.G[j]? = some false := by
      have e := dropsS_gone { S with fx := S.fx ++ [n] } (S.st (posN S.vars n)) j
      have e' : (fixS S n).G[j]? = (S.G[j]?).map fun b => b || decide (j ∈ S.st (posN S.vars n)) := e
      rw [hgj] at e'
      cases hq : S.G[j]? with
      | none => rw [hq] at e'; simp at e'
      | some b =>
        rw [hq] at e'
        simp at e'
        rw [e'.1]
    have hnd : c.Nodup := hd c (alive_mem.2 ⟨j, hcj, hSg⟩)
    by_cases hm : -n ∈ c
    · rw [if_pos ⟨h.comp j c hcj hSg _ hm, hg0⟩, er_filter hnd]
    · rw [filter_id hm]
      split
      · simp [er, hm]
      · rfl
end Go.Proofs.Ytlcbfahaapodmaa
