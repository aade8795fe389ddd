/-
  Layer 29: the code's counts and flags against the steps. Own work.
-/
import Derived.Test.YtlcbfahaapodmaaSi29
namespace Go.Proofs.Ytlcbfahaapodmaa
set_option linter.unusedVariables false
set_option linter.unusedSimpArgs false

theorem posN_inj {vars : Nat} {n m : Int} (hn : -(vars : Int) ≤ n ∧ n ≤ vars) (hm : -(vars : Int) ≤ m ∧ m ≤ vars) (h : posN vars n = posN vars m) : n = m := by
  unfold posN at h
  omega
theorem occN_pos {vars : Nat} {c : List Int} {n : Int} (hn : -(vars : Int) ≤ n ∧ n ≤ vars) (hc : ∀ m ∈ c, -(vars : Int) ≤ m ∧ m ≤ vars) : 0 < occN vars c (posN vars n) ↔ n ∈ c := by
  unfold occN
  rw [List.length_pos_iff_exists_mem]
  constructor
  · rintro ⟨m, hm⟩
    obtain ⟨h1, h2⟩ := List.mem_filter.1 hm
    have := posN_inj (hc m h1) hn (by simpa using h2)
    rw [← this]; exact h1
  · intro h
    exact ⟨n, List.mem_filter.2 ⟨h, by simp⟩⟩
theorem sumN_pos {vars : Nat} {C : Cs} {n : Int} (hn : -(vars : Int) ≤ n ∧ n ≤ vars) (hC : ∀ c ∈ C, ∀ m ∈ c, -(vars : Int) ≤ m ∧ m ≤ vars) : 0 < sumN vars C (posN vars n) ↔ hasL C n = true := by
  induction C with
  | nil => simp [sumN, hasL]
  | cons c C ih =>
    have ih := ih (fun d hd => hC d (by simp [hd]))
    have h1 := occN_pos hn (hC c (by simp))
    rw [sumN_cons]
    unfold hasL at ih ⊢
    rw [List.any_cons, Bool.or_eq_true, ← ih, decide_eq_true_iff, ← h1]
    omega
theorem Gd.aliveLits {S : Ws} (h : Gd S) : ∀ c ∈ alive S.L S.G, ∀ m ∈ c, -(S.vars : Int) ≤ m ∧ m ≤ S.vars := fun c hc m hm => by
  have := h.lits c (alive_sub hc) m hm
  exact ⟨this.1, this.2.1⟩
theorem Gd.cn_pos {S : Ws} (h : Gd S) {n : Int} (hn : -(S.vars : Int) ≤ n ∧ n ≤ S.vars) : decide (S.cn (posN S.vars n) > 0) = hasL (alive S.L S.G) n := by
  have h1 := sumN_pos hn h.aliveLits
  rw [Bool.eq_iff_iff, decide_eq_true_iff, ← h1, h.cnt]
  omega
theorem find_congr {α : Type} {l : List α} {p q : α → Bool} (h : ∀ x ∈ l, p x = q x) : l.find? p = l.find? q := by
  induction l with
  | nil => rfl
  | cons a l ih =>
    rw [List.find?_cons, List.find?_cons, h a (by simp), ih (fun x hx => h x (by simp [hx]))]
/-- step 5's literal -/
theorem loneW_eq {S : Ws} (h : Gd S) : loneW S = loneM S.vars (alive S.L S.G) := by
  unfold loneW loneM
  have e1 : ∀ v, v < S.vars → decide (S.cn (posN S.vars ((v + 1 : Nat) : Int)) > 0) = hasL (alive S.L S.G) ((v + 1 : Nat) : Int) := fun v hv => h.cn_pos (by omega)
  have e2 : ∀ v, v < S.vars → decide (S.cn (posN S.vars (-((v + 1 : Nat) : Int))) > 0) = hasL (alive S.L S.G) (-((v + 1 : Nat) : Int)) := fun v hv => h.cn_pos (by omega)
  rw [find_congr (q := fun v => hasL (alive S.L S.G) ((v + 1 : Nat) : Int) != hasL (alive S.L S.G) (-((v + 1 : Nat) : Int))) (fun v hv => by
    have := List.mem_range.1 hv
    rw [e1 v this, e2 v this])]
  cases hf : (List.range S.vars).find? fun v => hasL (alive S.L S.G) ((v + 1 : Nat) : Int) != hasL (alive S.L S.G) (-((v + 1 : Nat) : Int)) with
  | none => rfl
  | some v =>
    have hv := List.mem_range.1 (List.mem_of_find?_eq_some hf)
    simp only [Option.map_some, Option.some.injEq]
    have := e1 v hv
    by_cases hp : S.cn (posN S.vars ((v + 1 : Nat) : Int)) > 0
    · rw [if_pos hp, if_pos (by rw [← this]; exact decide_eq_true hp)]
    · rw [if_neg hp, if_neg (by rw [← this]; simpa using hp)]
/-- the first place with a property, and the first clause that is there -/
theorem find_alive (q : List Int → Bool) : ∀ (L : Cs) (G : List Bool), G.length = L.length → (alive L G).find? q = ((List.range L.length).find? fun i => q (L.getD i []) && !(G.getD i false)).map fun i => L.getD i []
  | [], _, _ => by simp [alive]
  | c :: L, [], h => by simp at h
  | c :: L, g :: G, h => by
    have ih := find_alive q L G (by simpa using h)
    rw [List.length_cons, List.range_succ_eq_map, List.find?_cons]
    have e0 : ((c :: L).getD 0 []) = c := rfl
    have e1 : ((g :: G).getD 0 false) = g := rfl
    rw [e0, e1, List.find?_map]
    have e2 : ((fun i => q ((c :: L).getD i []) && !((g :: G).getD i false)) ∘ Nat.succ) = fun i => q (L.getD i []) && !(G.getD i false) := by
      funext i
      simp [List.getD]
    rw [e2]
    cases g with
    | true =>
      simp only [alive, if_true, Bool.not_true, Bool.and_false]
      rw [ih, Option.map_map]
      congr 1
    | false =>
      simp only [alive, Bool.false_eq_true, if_false, Bool.not_false, Bool.and_true, List.find?_cons]
      cases hq : q c with
      | true => rfl
      | false =>
        simp only
        rw [ih, Option.map_map]
        congr 1
theorem unit_eq {S : Ws} (h : Gd S) : unitM (alive S.L S.G) = (firstW S 1).map fun i => (S.L.getD i []).headD 0 := by
  unfold unitM
  rw [find_alive (fun c => c.length == 1) S.L S.G h.gl]
  have e : firstW S 1 = (List.range S.L.length).find? fun i => (S.L.getD i []).length == 1 && !(S.G.getD i false) := rfl
  rw [← e]
  cases hf : firstW S 1 with
  | none => rfl
  | some i =>
    obtain ⟨_, h2, _⟩ := firstW_some hf
    simp only [Option.map_some, Option.bind_some]
    match hq : S.L.getD i [], h2 with
    | [n], _ => rfl
theorem empty_eq {S : Ws} (h : Gd S) : (firstW S 0).isSome = (alive S.L S.G).any fun c => c.isEmpty := by
  have e : firstW S 0 = (List.range S.L.length).find? fun i => (S.L.getD i []).length == 0 && !(S.G.getD i false) := rfl
  have h1 := find_alive (fun c => c.length == 0) S.L S.G h.gl
  rw [← e] at h1
  have h2 : (alive S.L S.G).any (fun c => c.isEmpty) = ((alive S.L S.G).find? fun c => c.length == 0).isSome := by
    rw [List.isSome_find?]
    congr 1
    funext c
    cases c <;> simp
  rw [h2, h1]
  cases firstW S 0 <;> rfl
end Go.Proofs.Ytlcbfahaapodmaa
