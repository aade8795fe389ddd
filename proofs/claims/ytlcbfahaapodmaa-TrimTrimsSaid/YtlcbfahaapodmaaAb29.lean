/-
  Layer 29: the code's steps are the steps of Tri29. Own work.
-/
import Derived.Test.YtlcbfahaapodmaaCv29
namespace Go.Proofs.Ytlcbfahaapodmaa
set_option linter.unusedVariables false
set_option linter.unusedSimpArgs false

/-- the state of the code as a state of the steps -/
def absW (S : Ws) : TS := { C := if S.en then [[]] else alive S.L S.G, fx := S.fx, sg := S.ns, en := S.en }
theorem dropsS_ns (S : Ws) (l : List Nat) : (dropsS S l).ns = S.ns ∧ (dropsS S l).en = S.en := by
  induction l using snoc_ind with
  | h0 => exact ⟨rfl, rfl⟩
  | h1 l k ih =>
    rw [dropsS_snoc]
    unfold dropS
    split
    · exact ih
    · exact ih
theorem fixS_ns (S : Ws) (n : Int) : (fixS S n).ns = S.ns ∧ (fixS S n).en = S.en := dropsS_ns { S with fx := S.fx ++ [n] } _
theorem cutsS_ns (n : Int) (S : Ws) (l : List Nat) : (cutsS n S l).ns = S.ns ∧ (cutsS n S l).en = S.en ∧ (cutsS n S l).fx = S.fx := by
  induction l using snoc_ind with
  | h0 => exact ⟨rfl, rfl, rfl⟩
  | h1 l k ih =>
    rw [cutsS_snoc]
    unfold cutS
    split
    · exact ih
    · exact ih
theorem singleS_ns (S : Ws) (n : Int) : (singleS S n).ns = S.ns + 1 ∧ (singleS S n).en = S.en ∧ (singleS S n).fx = S.fx ++ [n] := by
  obtain ⟨h1, h2, h3⟩ := cutsS_ns (-n) { fixS S n with ns := S.ns + 1 } (S.st (posN S.vars (-n)))
  exact ⟨h1, h2.trans (fixS_ns S n).2, h3.trans (fixS_same S n).2.2.2.1⟩
section
variable {S : Ws}
theorem abs_C (he : S.en = false) : (absW S).C = alive S.L S.G := by unfold absW; rw [he]; rfl
theorem step_pl (he : S.en = false) (hp : Pln (alive S.L S.G)) : Pln (absW S).C := by rw [abs_C he]; exact hp
/-- step 3 -/
theorem abs_empty (hg : Gd S) (hp : Pln (alive S.L S.G)) (he : S.en = false) (h : (firstW S 0).isSome = true) : stepM S.vars (absW S) = some (absW (emptyS S)) := by
  rw [stepM_pln (step_pl he hp), abs_C he, if_pos (by rw [← empty_eq hg]; exact h)]
  unfold absW emptyS
  simp [h]
theorem no_empty (hg : Gd S) (h : firstW S 0 = none) : ¬ ((alive S.L S.G).any (fun c => c.isEmpty) = true) := by
  rw [← empty_eq hg, h]; simp
/-- step 4 -/
theorem abs_single (hg : Gd S) (hi : StI S) (hp : Pln (alive S.L S.G)) (he : S.en = false) (h0 : firstW S 0 = none) {i : Nat} (h1 : firstW S 1 = some i) : stepM S.vars (absW S) = some (absW (singleAll S)) := by
  have hu : unitM (alive S.L S.G) = some ((S.L.getD i []).headD 0) := by rw [unit_eq hg, h1]; rfl
  have hs : singleAll S = singleS S ((S.L.getD i []).headD 0) := by unfold singleAll; rw [h1]
  generalize (S.L.getD i []).headD 0 = n at hu hs
  have hn : hasL (alive S.L S.G) n = true := hasL_mem.2 ⟨[n], unitM_spec hu, by simp⟩
  obtain ⟨a1, a2, a3⟩ := singleS_ns S n
  rw [stepM_pln (step_pl he hp), abs_C he, if_neg (no_empty hg h0), hu, hs]
  simp only [Option.some.injEq]
  unfold absW
  rw [a1, a2, a3, he]
  simp only [Bool.false_eq_true, if_false]
  rw [alive_single hg hi hp.1 hn]
theorem no_unit (hg : Gd S) (h : firstW S 1 = none) : unitM (alive S.L S.G) = none := by rw [unit_eq hg, h]; rfl
/-- step 5 -/
theorem abs_lone (hg : Gd S) (hi : StI S) (hp : Pln (alive S.L S.G)) (he : S.en = false) (h0 : firstW S 0 = none) (h1 : firstW S 1 = none) {n : Int} (h2 : loneW S = some n) : stepM S.vars (absW S) = some (absW (loneS S)) := by
  have hs : loneS S = fixS S n := by unfold loneS; rw [h2]
  have hl : loneM S.vars (alive S.L S.G) = some n := by rw [← loneW_eq hg]; exact h2
  obtain ⟨a1, a2⟩ := fixS_ns S n
  have a3 := (fixS_same S n).2.2.2.1
  rw [stepM_pln (step_pl he hp), abs_C he, if_neg (no_empty hg h0), no_unit hg h1, hl, hs]
  simp only [Option.some.injEq]
  unfold absW
  rw [a1, a2, a3, he]
  simp only [Bool.false_eq_true, if_false]
  rw [alive_lone hg hi h2]
/-- step 6 -/
theorem abs_cover (hg : Gd S) (hp : Pln (alive S.L S.G)) (he : S.en = false) (h0 : firstW S 0 = none) (h1 : firstW S 1 = none) (h2 : loneW S = none) {i k : Nat} (hi : i ∈ aliveIx S.L S.G) (hk : k ∈ aliveIx S.L S.G) (hc : coversW S i k = true)
    (g1 : ∀ j, j ∈ aliveIx S.L S.G → j < i → ∀ m, m ∈ aliveIx S.L S.G → coversW S j m = false) (g2 : ∀ m, m ∈ aliveIx S.L S.G → m < k → coversW S i m = false) : stepM S.vars (absW S) = some (absW (dropS S k)) := by
  obtain ⟨y, hy, hy2⟩ := covM_hit hg.gl hi hk hc g1 g2
  have hd : dropS S k = { S with G := S.G.set k true, cn := subN S (S.L.getD k []) } := by
    unfold dropS
    rw [if_neg (by rw [(aliveIx_mem.1 hk).2]; simp)]
  rw [stepM_pln (step_pl he hp), abs_C he, if_neg (no_empty hg h0), no_unit hg h1, ← loneW_eq hg, h2, hy, hd]
  simp only [Option.map_some, Option.some.injEq]
  unfold absW
  simp only [he, Bool.false_eq_true, if_false]
  rw [alive_drop hg.gl hy2]
/-- no step -/
theorem abs_done (hg : Gd S) (hp : Pln (alive S.L S.G)) (he : S.en = false) (h0 : firstW S 0 = none) (h1 : firstW S 1 = none) (h2 : loneW S = none) (h3 : ∀ i k, i ∈ aliveIx S.L S.G → k ∈ aliveIx S.L S.G → coversW S i k = false) : stepM S.vars (absW S) = none := by
  rw [stepM_pln (step_pl he hp), abs_C he, if_neg (no_empty hg h0), no_unit hg h1, ← loneW_eq hg, h2, covM_no hg.gl h3]
  rfl
end
end Go.Proofs.Ytlcbfahaapodmaa
