/-
  Layer 17: the document's examples hold. Own work.
-/
import Derived.Test.YtgfgajekegfdgaaEnc17
import Derived.Test.YtgfgajekegfdgaaTaken17
import Derived.Test.YtgfgajekegfdgaaRight17
namespace Go.Proofs.Ytgfgajekegfdgaa
set_option linter.unusedVariables false
set_option linter.unusedSimpArgs false
open Go.RowKit

def kyA : Ky := ⟨⟨#[103]⟩, ⟨#[97]⟩, ⟨#[106, 97, 114]⟩, ⟨#[]⟩⟩
def kyB : Ky := ⟨⟨#[103]⟩, ⟨#[98]⟩, ⟨#[106, 97, 114]⟩, ⟨#[]⟩⟩
/-- the document's deal -/
def dealD : Dl := ⟨[⟨kyA, ⟨#[49]⟩⟩, ⟨kyB, ⟨#[49]⟩⟩, ⟨kyB, ⟨#[50]⟩⟩], [[[1, 2]], [], []], 0⟩
theorem dealD_few : fewW dealD.ws := by
  intro ws h
  simp only [dealD, List.mem_cons, List.not_mem_nil, or_false] at h
  rcases h with rfl | rfl | rfl
  · exact ⟨by simp, fun w hw => by simp at hw; subst hw; simp⟩
  · exact ⟨by simp, fun w hw => by simp at hw⟩
  · exact ⟨by simp, fun w hw => by simp at hw⟩
theorem dealD_ok : ∀ x ∈ dealD.its, okIt x := by
  intro x h
  simp only [dealD, List.mem_cons, List.not_mem_nil, or_false] at h
  rcases h with rfl | rfl | rfl <;> exact ⟨by decide, by decide, by decide, by decide, by decide⟩
theorem dealD_may : mayD dealD = 0 := by decide +kernel
theorem dealD_size : sizeD dealD = 3 := by decide +kernel
theorem dealD_enc : encL dealD = [[1], [-1, 2, 3], [-2, -3]] := by decide +kernel
theorem dealD_no : rightB dealD [0, 1, 2] = false := by decide +kernel
theorem dealD_yes : rightB dealD [0, 1] = true := by decide +kernel
theorem dealD_tk : IsTk dealD [true, true, true] [0, 1, 2] := by
  refine ⟨[true, true, true], rfl, by decide, fun i => ?_⟩
  have ha : ∀ k : Nat, k < 3 → alw [true, true, true] k := fun k hk => by
    unfold alw
    match k, hk with
    | 0, _ => rfl
    | 1, _ => rfl
    | 2, _ => rfl
  have h0 : Rch dealD [true, true, true] 0 0 := Rch.refl (ha 0 (by omega))
  have he : ∀ y : Nat, (y = 1 ∨ y = 2) → Edge dealD 0 y := fun y hy => ⟨[[1, 2]], [1, 2], rfl, by simp, by rcases hy with rfl | rfl <;> simp⟩
  constructor
  · intro h
    have hi : i < 3 := by
      have := (List.getElem?_eq_some_iff.1 h).1
      simpa using this
    show Rch dealD [true, true, true] 0 i
    match i, hi with
    | 0, _ => exact h0
    | 1, _ => exact h0.step (he 1 (.inl rfl)) (ha 1 (by omega))
    | 2, _ => exact h0.step (he 2 (.inr rfl)) (ha 2 (by omega))
  · intro h
    exact h (fun i => ([true, true, true] : List Bool)[i]? = some true) (fun h => h) (fun i y _ _ hy => hy)
theorem deal_results (tmps : Array Value) (w : World) (R : Nat) (cs : Array Value) (hs : cs.size = 3) (h2 : tmps.getD 0 undef = .pointer (some ⟨R, 0, none⟩))
    (hR : w.heap[R]? = some (.cells cs 25 (0, 0))) :
    (results Try.f20 tmps).run Try.prog w = .ok (.agg cs) w := by
  have h2' : tmps[0]?.getD undef = .pointer (some ⟨R, 0, none⟩) := by simpa using h2
  have l1 := run_loadVar_row w R 25 25 cs (0, 0) _ hR Try.underlying25 rfl (by rw [hs]; kernel_rfl)
  simp [results, Try.results20, h2', asAddr, l1]
theorem add_off17 (g i : Nat) : (⟨g, 0, none⟩ : Addr).add i = ⟨g, i, none⟩ := by unfold Addr.add; split <;> simp_all
theorem dealD_at {w : World} {R b0 b1 b2 b3 : Nat} {CS : Array Value} (h0 : b0 ≠ R) (r0 : w.heap[b0]? = some (.cells #[.string ⟨#[103]⟩, .string ⟨#[97]⟩, .string ⟨#[106, 97, 114]⟩, .string ⟨#[]⟩, .string ⟨#[49]⟩, .string ⟨#[103]⟩, .string ⟨#[98]⟩, .string ⟨#[106, 97, 114]⟩, .string ⟨#[]⟩, .string ⟨#[49]⟩, .string ⟨#[103]⟩, .string ⟨#[98]⟩, .string ⟨#[106, 97, 114]⟩, .string ⟨#[]⟩, .string ⟨#[50]⟩] 50 (0, 0))) (h1 : b1 ≠ R) (r1 : w.heap[b1]? = some (.cells #[.int .i64 1, .int .i64 2] 3 (0, 0)))
    (h2 : b2 ≠ R) (r2 : w.heap[b2]? = some (.cells #[.slice (some ⟨b1, 0, none⟩) 2 2] 39 (0, 0))) (h3 : b3 ≠ R) (r3 : w.heap[b3]? = some (.cells #[.slice (some ⟨b2, 0, none⟩) 1 1, .slice none 0 0, .slice none 0 0] 32 (0, 0))) :
    RdD (w.setRow R CS) (.slice (some ⟨b0, 0, none⟩) 3 3) (.slice (some ⟨b3, 0, none⟩) 3 3) dealD := by
  have q0 := (setRow_other w R b0 CS h0).trans r0
  have q1 := (setRow_other w R b1 CS h1).trans r1
  have q2 := (setRow_other w R b2 CS h2).trans r2
  have q3 := (setRow_other w R b3 CS h3).trans r3
  generalize w.setRow R CS = v at q0 q1 q2 q3
  constructor
  · refine .inr ⟨⟨b0, 0, none⟩, 3, rfl, by decide, by decide, fun i x hx c u hu => ?_⟩
    rw [add_off17, cell_of_row v b0 _ _ _ (0, 0) q0]
    have hc : c < 5 := by have := (List.getElem?_eq_some_iff.1 hu).1; simpa [itCells] using this
    match i with
    | 0 =>
      simp only [dealD, List.getElem?_cons_zero, Option.some.injEq] at hx
      subst hx
      match c, hc with
      | 0, _ => exact hu
      | 1, _ => exact hu
      | 2, _ => exact hu
      | 3, _ => exact hu
      | 4, _ => exact hu
    | 1 =>
      simp only [dealD, List.getElem?_cons_zero, List.getElem?_cons_succ, Option.some.injEq] at hx
      subst hx
      match c, hc with
      | 0, _ => exact hu
      | 1, _ => exact hu
      | 2, _ => exact hu
      | 3, _ => exact hu
      | 4, _ => exact hu
    | 2 =>
      simp only [dealD, List.getElem?_cons_zero, List.getElem?_cons_succ, Option.some.injEq] at hx
      subst hx
      match c, hc with
      | 0, _ => exact hu
      | 1, _ => exact hu
      | 2, _ => exact hu
      | 3, _ => exact hu
      | 4, _ => exact hu
    | i + 3 => simp [dealD] at hx
  · refine .inr ⟨⟨b3, 0, none⟩, 3, rfl, by decide, by decide, fun i x hx => ?_⟩
    rw [add_off17, cell_of_row v b3 _ _ _ (0, 0) q3]
    match i with
    | 0 =>
      simp only [dealD, List.getElem?_cons_zero, Option.some.injEq] at hx
      subst hx
      refine ⟨_, rfl, .inr ⟨⟨b2, 0, none⟩, 1, rfl, by decide, by decide, fun j y hy => ?_⟩⟩
      rw [add_off17, cell_of_row v b2 _ _ _ (0, 0) q2]
      match j with
      | 0 =>
        simp only [List.getElem?_cons_zero, Option.some.injEq] at hy
        subst hy
        refine ⟨_, rfl, .inr ⟨⟨b1, 0, none⟩, 2, rfl, by decide, by decide, fun k n hn => ?_⟩⟩
        rw [add_off17, cell_of_row v b1 _ _ _ (0, 0) q1]
        match k with
        | 0 =>
          simp only [List.getElem?_cons_zero, Option.some.injEq] at hn
          subst hn; rfl
        | 1 =>
          simp only [List.getElem?_cons_zero, List.getElem?_cons_succ, Option.some.injEq] at hn
          subst hn; rfl
        | k + 2 => simp at hn
      | j + 1 => simp at hy
    | 1 =>
      simp only [dealD, List.getElem?_cons_zero, List.getElem?_cons_succ, Option.some.injEq] at hx
      subst hx
      exact ⟨_, rfl, .inl ⟨rfl, rfl⟩⟩
    | 2 =>
      simp only [dealD, List.getElem?_cons_zero, List.getElem?_cons_succ, Option.some.injEq] at hx
      subst hx
      exact ⟨_, rfl, .inl ⟨rfl, rfl⟩⟩
    | i + 3 => simp [dealD] at hx
def DealP (w : World) (e : Ending) (w' : World) : Prop := ∃ a c b k, e = .returned (dealV (.slice a 3 c) (.slice b 3 k) 0) ∧ RdD w' (.slice a 3 c) (.slice b 3 k) dealD ∧ Below w.heap.size w w'
set_option maxRecDepth 100000 in
set_option maxHeartbeats 4000000 in
theorem deal_any (w : World) : Calls Try.prog 20 #[] w (DealP w) := by
  go_enter Try.func20, Try.ntmps20
  go_upto_region 5 with fail
  have hb4 : Below w.heap.size w ((((w.alloc (.cells #[.slice none 0 0, .slice none 0 0, .int .i64 0] 25)).alloc (.cells #[.string ⟨#[103]⟩, .string ⟨#[97]⟩, .string ⟨#[106, 97, 114]⟩, .string ⟨#[]⟩, .string ⟨#[49]⟩] 50)).alloc (.cells #[.string ⟨#[103]⟩, .string ⟨#[98]⟩, .string ⟨#[106, 97, 114]⟩, .string ⟨#[]⟩, .string ⟨#[49]⟩] 50)).alloc (.cells #[.string ⟨#[103]⟩, .string ⟨#[98]⟩, .string ⟨#[106, 97, 114]⟩, .string ⟨#[]⟩, .string ⟨#[50]⟩] 50)) := ((((Below.refl w.heap.size w).alloc (Nat.le_refl _) _).alloc (by simp) _).alloc (by simp <;> omega) _).alloc (by simp <;> omega) _
  have hR : (((((w.alloc (.cells #[.slice none 0 0, .slice none 0 0, .int .i64 0] 25)).alloc (.cells #[.string ⟨#[103]⟩, .string ⟨#[97]⟩, .string ⟨#[106, 97, 114]⟩, .string ⟨#[]⟩, .string ⟨#[49]⟩] 50)).alloc (.cells #[.string ⟨#[103]⟩, .string ⟨#[98]⟩, .string ⟨#[106, 97, 114]⟩, .string ⟨#[]⟩, .string ⟨#[49]⟩] 50)).alloc (.cells #[.string ⟨#[103]⟩, .string ⟨#[98]⟩, .string ⟨#[106, 97, 114]⟩, .string ⟨#[]⟩, .string ⟨#[50]⟩] 50))).heap[w.heap.size]? = some (.cells #[.slice none 0 0, .slice none 0 0, .int .i64 0] 25 (0, 0)) :=
    (Below.heap_alloc _ _ _ (by simp <;> omega)).trans ((Below.heap_alloc _ _ _ (by simp <;> omega)).trans ((Below.heap_alloc _ _ _ (by simp)).trans (heap_alloc_new w _)))
  have hA : (((((w.alloc (.cells #[.slice none 0 0, .slice none 0 0, .int .i64 0] 25)).alloc (.cells #[.string ⟨#[103]⟩, .string ⟨#[97]⟩, .string ⟨#[106, 97, 114]⟩, .string ⟨#[]⟩, .string ⟨#[49]⟩] 50)).alloc (.cells #[.string ⟨#[103]⟩, .string ⟨#[98]⟩, .string ⟨#[106, 97, 114]⟩, .string ⟨#[]⟩, .string ⟨#[49]⟩] 50)).alloc (.cells #[.string ⟨#[103]⟩, .string ⟨#[98]⟩, .string ⟨#[106, 97, 114]⟩, .string ⟨#[]⟩, .string ⟨#[50]⟩] 50))).heap[w.heap.size + 1]? = some (.cells #[.string ⟨#[103]⟩, .string ⟨#[97]⟩, .string ⟨#[106, 97, 114]⟩, .string ⟨#[]⟩, .string ⟨#[49]⟩] 50 (0, 0)) := by
    have h := heap_alloc_new (w.alloc (.cells #[.slice none 0 0, .slice none 0 0, .int .i64 0] 25)) (.cells #[.string ⟨#[103]⟩, .string ⟨#[97]⟩, .string ⟨#[106, 97, 114]⟩, .string ⟨#[]⟩, .string ⟨#[49]⟩] 50)
    refine (Below.heap_alloc _ _ _ (by simp <;> omega)).trans ((Below.heap_alloc _ _ _ (by simp)).trans ?_)
    simpa using h
  have hB : (((((w.alloc (.cells #[.slice none 0 0, .slice none 0 0, .int .i64 0] 25)).alloc (.cells #[.string ⟨#[103]⟩, .string ⟨#[97]⟩, .string ⟨#[106, 97, 114]⟩, .string ⟨#[]⟩, .string ⟨#[49]⟩] 50)).alloc (.cells #[.string ⟨#[103]⟩, .string ⟨#[98]⟩, .string ⟨#[106, 97, 114]⟩, .string ⟨#[]⟩, .string ⟨#[49]⟩] 50)).alloc (.cells #[.string ⟨#[103]⟩, .string ⟨#[98]⟩, .string ⟨#[106, 97, 114]⟩, .string ⟨#[]⟩, .string ⟨#[50]⟩] 50))).heap[w.heap.size + 1 + 1]? = some (.cells #[.string ⟨#[103]⟩, .string ⟨#[98]⟩, .string ⟨#[106, 97, 114]⟩, .string ⟨#[]⟩, .string ⟨#[49]⟩] 50 (0, 0)) := by
    have h := heap_alloc_new ((w.alloc (.cells #[.slice none 0 0, .slice none 0 0, .int .i64 0] 25)).alloc (.cells #[.string ⟨#[103]⟩, .string ⟨#[97]⟩, .string ⟨#[106, 97, 114]⟩, .string ⟨#[]⟩, .string ⟨#[49]⟩] 50)) (.cells #[.string ⟨#[103]⟩, .string ⟨#[98]⟩, .string ⟨#[106, 97, 114]⟩, .string ⟨#[]⟩, .string ⟨#[49]⟩] 50)
    refine (Below.heap_alloc _ _ _ (by simp)).trans ?_
    simpa using h
  have hC : (((((w.alloc (.cells #[.slice none 0 0, .slice none 0 0, .int .i64 0] 25)).alloc (.cells #[.string ⟨#[103]⟩, .string ⟨#[97]⟩, .string ⟨#[106, 97, 114]⟩, .string ⟨#[]⟩, .string ⟨#[49]⟩] 50)).alloc (.cells #[.string ⟨#[103]⟩, .string ⟨#[98]⟩, .string ⟨#[106, 97, 114]⟩, .string ⟨#[]⟩, .string ⟨#[49]⟩] 50)).alloc (.cells #[.string ⟨#[103]⟩, .string ⟨#[98]⟩, .string ⟨#[106, 97, 114]⟩, .string ⟨#[]⟩, .string ⟨#[50]⟩] 50))).heap[w.heap.size + 1 + 1 + 1]? = some (.cells #[.string ⟨#[103]⟩, .string ⟨#[98]⟩, .string ⟨#[106, 97, 114]⟩, .string ⟨#[]⟩, .string ⟨#[50]⟩] 50 (0, 0)) := by
    have h := heap_alloc_new (((w.alloc (.cells #[.slice none 0 0, .slice none 0 0, .int .i64 0] 25)).alloc (.cells #[.string ⟨#[103]⟩, .string ⟨#[97]⟩, .string ⟨#[106, 97, 114]⟩, .string ⟨#[]⟩, .string ⟨#[49]⟩] 50)).alloc (.cells #[.string ⟨#[103]⟩, .string ⟨#[98]⟩, .string ⟨#[106, 97, 114]⟩, .string ⟨#[]⟩, .string ⟨#[49]⟩] 50)) (.cells #[.string ⟨#[103]⟩, .string ⟨#[98]⟩, .string ⟨#[106, 97, 114]⟩, .string ⟨#[]⟩, .string ⟨#[50]⟩] 50)
    simpa using h
  generalize ((((w.alloc (.cells #[.slice none 0 0, .slice none 0 0, .int .i64 0] 25)).alloc (.cells #[.string ⟨#[103]⟩, .string ⟨#[97]⟩, .string ⟨#[106, 97, 114]⟩, .string ⟨#[]⟩, .string ⟨#[49]⟩] 50)).alloc (.cells #[.string ⟨#[103]⟩, .string ⟨#[98]⟩, .string ⟨#[106, 97, 114]⟩, .string ⟨#[]⟩, .string ⟨#[49]⟩] 50)).alloc (.cells #[.string ⟨#[103]⟩, .string ⟨#[98]⟩, .string ⟨#[106, 97, 114]⟩, .string ⟨#[]⟩, .string ⟨#[50]⟩] 50)) = w4 at hb4 hR hA hB hC ⊢
  obtain ⟨A3, hA3⟩ : ∃ b, b = w.heap.size + 1 + 1 + 1 := ⟨_, rfl⟩
  rw [← hA3] at hC ⊢
  obtain ⟨A2, hA2⟩ : ∃ b, b = w.heap.size + 1 + 1 := ⟨_, rfl⟩
  rw [← hA2] at hB ⊢
  obtain ⟨A1, hA1⟩ : ∃ b, b = w.heap.size + 1 := ⟨_, rfl⟩
  rw [← hA1] at hA ⊢
  obtain ⟨R, hRe⟩ : ∃ b, b = w.heap.size := ⟨_, rfl⟩
  rw [← hRe] at hR ⊢
  have HRE := Lib.hid hRe
  clear hA3 hA2 hA1 hRe
  have a0 := (cell_of_row w4 A1 0 _ _ (0, 0) hA)
  have a1 := (cell_of_row w4 A1 1 _ _ (0, 0) hA)
  have a2 := (cell_of_row w4 A1 2 _ _ (0, 0) hA)
  have a3 := (cell_of_row w4 A1 3 _ _ (0, 0) hA)
  have a4 := (cell_of_row w4 A1 4 _ _ (0, 0) hA)
  have b0 := (cell_of_row w4 A2 0 _ _ (0, 0) hB)
  have b1 := (cell_of_row w4 A2 1 _ _ (0, 0) hB)
  have b2 := (cell_of_row w4 A2 2 _ _ (0, 0) hB)
  have b3 := (cell_of_row w4 A2 3 _ _ (0, 0) hB)
  have b4 := (cell_of_row w4 A2 4 _ _ (0, 0) hB)
  have c0 := (cell_of_row w4 A3 0 _ _ (0, 0) hC)
  have c1 := (cell_of_row w4 A3 1 _ _ (0, 0) hC)
  have c2 := (cell_of_row w4 A3 2 _ _ (0, 0) hC)
  have c3 := (cell_of_row w4 A3 3 _ _ (0, 0) hC)
  have c4 := (cell_of_row w4 A3 4 _ _ (0, 0) hC)
  simp at a0 a1 a2 a3 a4 b0 b1 b2 b3 b4 c0 c1 c2 c3 c4
  have HB4 := Lib.hid hb4
  have HRL := Lib.hid (show R < w4.heap.size from (Array.getElem?_eq_some_iff.1 hR).1)
  have hb5 : Below w4.heap.size w4 ((((w4.alloc (.cells #[.string ⟨#[103]⟩, .string ⟨#[97]⟩, .string ⟨#[106, 97, 114]⟩, .string ⟨#[]⟩, .string ⟨#[49]⟩, .string ⟨#[103]⟩, .string ⟨#[98]⟩, .string ⟨#[106, 97, 114]⟩, .string ⟨#[]⟩, .string ⟨#[49]⟩, .string ⟨#[103]⟩, .string ⟨#[98]⟩, .string ⟨#[106, 97, 114]⟩, .string ⟨#[]⟩, .string ⟨#[50]⟩] 50)).alloc (.cells #[.int .i64 1, .int .i64 2] 3)).alloc (.cells #[.slice (some ⟨w4.heap.size + 1, 0, none⟩) 2 2] 39)).alloc (.cells #[.slice (some ⟨w4.heap.size + 1 + 1, 0, none⟩) 1 1, .slice none 0 0, .slice none 0 0] 32)) := ((((Below.refl w4.heap.size w4).alloc (Nat.le_refl _) _).alloc (by simp) _).alloc (by simp <;> omega) _).alloc (by simp <;> omega) _
  have HRW := Lib.hid ((hb5.block R HRL.out).trans hR)
  have r0 : (((((w4.alloc (.cells #[.string ⟨#[103]⟩, .string ⟨#[97]⟩, .string ⟨#[106, 97, 114]⟩, .string ⟨#[]⟩, .string ⟨#[49]⟩, .string ⟨#[103]⟩, .string ⟨#[98]⟩, .string ⟨#[106, 97, 114]⟩, .string ⟨#[]⟩, .string ⟨#[49]⟩, .string ⟨#[103]⟩, .string ⟨#[98]⟩, .string ⟨#[106, 97, 114]⟩, .string ⟨#[]⟩, .string ⟨#[50]⟩] 50)).alloc (.cells #[.int .i64 1, .int .i64 2] 3)).alloc (.cells #[.slice (some ⟨w4.heap.size + 1, 0, none⟩) 2 2] 39)).alloc (.cells #[.slice (some ⟨w4.heap.size + 1 + 1, 0, none⟩) 1 1, .slice none 0 0, .slice none 0 0] 32))).heap[w4.heap.size]? = some (.cells #[.string ⟨#[103]⟩, .string ⟨#[97]⟩, .string ⟨#[106, 97, 114]⟩, .string ⟨#[]⟩, .string ⟨#[49]⟩, .string ⟨#[103]⟩, .string ⟨#[98]⟩, .string ⟨#[106, 97, 114]⟩, .string ⟨#[]⟩, .string ⟨#[49]⟩, .string ⟨#[103]⟩, .string ⟨#[98]⟩, .string ⟨#[106, 97, 114]⟩, .string ⟨#[]⟩, .string ⟨#[50]⟩] 50 (0, 0)) :=
    (Below.heap_alloc _ _ _ (by simp <;> omega)).trans ((Below.heap_alloc _ _ _ (by simp <;> omega)).trans ((Below.heap_alloc _ _ _ (by simp)).trans (heap_alloc_new w4 _)))
  have r1 : (((((w4.alloc (.cells #[.string ⟨#[103]⟩, .string ⟨#[97]⟩, .string ⟨#[106, 97, 114]⟩, .string ⟨#[]⟩, .string ⟨#[49]⟩, .string ⟨#[103]⟩, .string ⟨#[98]⟩, .string ⟨#[106, 97, 114]⟩, .string ⟨#[]⟩, .string ⟨#[49]⟩, .string ⟨#[103]⟩, .string ⟨#[98]⟩, .string ⟨#[106, 97, 114]⟩, .string ⟨#[]⟩, .string ⟨#[50]⟩] 50)).alloc (.cells #[.int .i64 1, .int .i64 2] 3)).alloc (.cells #[.slice (some ⟨w4.heap.size + 1, 0, none⟩) 2 2] 39)).alloc (.cells #[.slice (some ⟨w4.heap.size + 1 + 1, 0, none⟩) 1 1, .slice none 0 0, .slice none 0 0] 32))).heap[w4.heap.size + 1]? = some (.cells #[.int .i64 1, .int .i64 2] 3 (0, 0)) := by
    have h := heap_alloc_new (w4.alloc (.cells #[.string ⟨#[103]⟩, .string ⟨#[97]⟩, .string ⟨#[106, 97, 114]⟩, .string ⟨#[]⟩, .string ⟨#[49]⟩, .string ⟨#[103]⟩, .string ⟨#[98]⟩, .string ⟨#[106, 97, 114]⟩, .string ⟨#[]⟩, .string ⟨#[49]⟩, .string ⟨#[103]⟩, .string ⟨#[98]⟩, .string ⟨#[106, 97, 114]⟩, .string ⟨#[]⟩, .string ⟨#[50]⟩] 50)) (.cells #[.int .i64 1, .int .i64 2] 3)
    refine (Below.heap_alloc _ _ _ (by simp <;> omega)).trans ((Below.heap_alloc _ _ _ (by simp)).trans ?_)
    simpa using h
  have r2 : (((((w4.alloc (.cells #[.string ⟨#[103]⟩, .string ⟨#[97]⟩, .string ⟨#[106, 97, 114]⟩, .string ⟨#[]⟩, .string ⟨#[49]⟩, .string ⟨#[103]⟩, .string ⟨#[98]⟩, .string ⟨#[106, 97, 114]⟩, .string ⟨#[]⟩, .string ⟨#[49]⟩, .string ⟨#[103]⟩, .string ⟨#[98]⟩, .string ⟨#[106, 97, 114]⟩, .string ⟨#[]⟩, .string ⟨#[50]⟩] 50)).alloc (.cells #[.int .i64 1, .int .i64 2] 3)).alloc (.cells #[.slice (some ⟨w4.heap.size + 1, 0, none⟩) 2 2] 39)).alloc (.cells #[.slice (some ⟨w4.heap.size + 1 + 1, 0, none⟩) 1 1, .slice none 0 0, .slice none 0 0] 32))).heap[w4.heap.size + 1 + 1]? = some (.cells #[.slice (some ⟨w4.heap.size + 1, 0, none⟩) 2 2] 39 (0, 0)) := by
    have h := heap_alloc_new ((w4.alloc (.cells #[.string ⟨#[103]⟩, .string ⟨#[97]⟩, .string ⟨#[106, 97, 114]⟩, .string ⟨#[]⟩, .string ⟨#[49]⟩, .string ⟨#[103]⟩, .string ⟨#[98]⟩, .string ⟨#[106, 97, 114]⟩, .string ⟨#[]⟩, .string ⟨#[49]⟩, .string ⟨#[103]⟩, .string ⟨#[98]⟩, .string ⟨#[106, 97, 114]⟩, .string ⟨#[]⟩, .string ⟨#[50]⟩] 50)).alloc (.cells #[.int .i64 1, .int .i64 2] 3)) (.cells #[.slice (some ⟨w4.heap.size + 1, 0, none⟩) 2 2] 39)
    refine (Below.heap_alloc _ _ _ (by simp)).trans ?_
    simpa using h
  have r3 : (((((w4.alloc (.cells #[.string ⟨#[103]⟩, .string ⟨#[97]⟩, .string ⟨#[106, 97, 114]⟩, .string ⟨#[]⟩, .string ⟨#[49]⟩, .string ⟨#[103]⟩, .string ⟨#[98]⟩, .string ⟨#[106, 97, 114]⟩, .string ⟨#[]⟩, .string ⟨#[49]⟩, .string ⟨#[103]⟩, .string ⟨#[98]⟩, .string ⟨#[106, 97, 114]⟩, .string ⟨#[]⟩, .string ⟨#[50]⟩] 50)).alloc (.cells #[.int .i64 1, .int .i64 2] 3)).alloc (.cells #[.slice (some ⟨w4.heap.size + 1, 0, none⟩) 2 2] 39)).alloc (.cells #[.slice (some ⟨w4.heap.size + 1 + 1, 0, none⟩) 1 1, .slice none 0 0, .slice none 0 0] 32))).heap[w4.heap.size + 1 + 1 + 1]? = some (.cells #[.slice (some ⟨w4.heap.size + 1 + 1, 0, none⟩) 1 1, .slice none 0 0, .slice none 0 0] 32 (0, 0)) := by
    have h := heap_alloc_new (((w4.alloc (.cells #[.string ⟨#[103]⟩, .string ⟨#[97]⟩, .string ⟨#[106, 97, 114]⟩, .string ⟨#[]⟩, .string ⟨#[49]⟩, .string ⟨#[103]⟩, .string ⟨#[98]⟩, .string ⟨#[106, 97, 114]⟩, .string ⟨#[]⟩, .string ⟨#[49]⟩, .string ⟨#[103]⟩, .string ⟨#[98]⟩, .string ⟨#[106, 97, 114]⟩, .string ⟨#[]⟩, .string ⟨#[50]⟩] 50)).alloc (.cells #[.int .i64 1, .int .i64 2] 3)).alloc (.cells #[.slice (some ⟨w4.heap.size + 1, 0, none⟩) 2 2] 39)) (.cells #[.slice (some ⟨w4.heap.size + 1 + 1, 0, none⟩) 1 1, .slice none 0 0, .slice none 0 0] 32)
    simpa using h
  have HDD := Lib.hid (dealD_at (w := ((((w4.alloc (.cells #[.string ⟨#[103]⟩, .string ⟨#[97]⟩, .string ⟨#[106, 97, 114]⟩, .string ⟨#[]⟩, .string ⟨#[49]⟩, .string ⟨#[103]⟩, .string ⟨#[98]⟩, .string ⟨#[106, 97, 114]⟩, .string ⟨#[]⟩, .string ⟨#[49]⟩, .string ⟨#[103]⟩, .string ⟨#[98]⟩, .string ⟨#[106, 97, 114]⟩, .string ⟨#[]⟩, .string ⟨#[50]⟩] 50)).alloc (.cells #[.int .i64 1, .int .i64 2] 3)).alloc (.cells #[.slice (some ⟨w4.heap.size + 1, 0, none⟩) 2 2] 39)).alloc (.cells #[.slice (some ⟨w4.heap.size + 1 + 1, 0, none⟩) 1 1, .slice none 0 0, .slice none 0 0] 32))) (R := R) (CS := #[.slice (some ⟨w4.heap.size, 0, none⟩) 3 3, .slice (some ⟨w4.heap.size + 1 + 1 + 1, 0, none⟩) 3 3, .int .i64 0]) (by have := HRL.out; omega) r0 (by have := HRL.out; omega) r1 (by have := HRL.out; omega) r2 (by have := HRL.out; omega) r3)
  have HB5 := Lib.hid (HB4.out.trans (hb5.mono HB4.out.size))
  clear hA hB hC hR hb4 hb5 r0 r1 r2 r3
  go_wp2_with (refine wpList_store_row rfl 25 _ _ rfl R #[.slice (some ⟨w4.heap.size, 0, none⟩) 3 3, .slice (some ⟨w4.heap.size + 1 + 1 + 1, 0, none⟩) 3 3, .int .i64 0] rfl rfl 25 _ HRW.out (by kernel_rfl) rfl (by simp [Value.oneCell']) ?_)
  refine bodyPost_ret (deal_results _ _ R #[.slice (some ⟨w4.heap.size, 0, none⟩) 3 3, .slice (some ⟨w4.heap.size + 1 + 1 + 1, 0, none⟩) 3 3, .int .i64 0] rfl rfl (setRow_heap _ R _ _ _ _ HRW.out)) rfl ?_
  exact ⟨_, _, _, _, rfl, HDD.out, below_setRow HB5.out (by rw [HRE.out]; exact Nat.le_refl _)⟩
def Cells3 (w : World) (g b1 b2 c1 c2 : Nat) : Prop := w.cell? ⟨g, 1, none⟩ = some (.slice (some ⟨b1, 0, none⟩) 3 c1) ∧ w.cell? ⟨b1, 0, none⟩ = some (.int .i64 (-1)) ∧ w.cell? ⟨g, 2, none⟩ = some (.slice (some ⟨b2, 0, none⟩) 2 c2) ∧ w.cell? ⟨b2, 1, none⟩ = some (.int .i64 (-3))
theorem Cells3.below {w w' : World} {g b1 b2 c1 c2 B : Nat} (h : Cells3 w g b1 b2 c1 c2) (hb : Below B w w') (hB : w.heap.size ≤ B) : Cells3 w' g b1 b2 c1 c2 := by
  have hc : ∀ {A : Addr} {x : Value}, w.cell? A = some x → w'.cell? A = some x := fun hx => (hb.cell (Nat.lt_of_lt_of_le (World.block_lt_of_cell? w _ hx) hB)).trans hx
  exact ⟨hc h.1, hc h.2.1, hc h.2.2.1, hc h.2.2.2⟩
set_option maxRecDepth 100000 in
set_option maxHeartbeats 4000000 in
theorem lives17 (w : World) : Calls Try.prog 10 #[] w fun e w' => e = .returned (.bool true) ∧ Below w.heap.size w w' := by
  go_enter Try.func10, Try.ntmps10
  go_wp2_with fail
  refine (deal_any w).mono ?_
  rintro e w1 ⟨a, c, b, k, rfl, hrd, hb1⟩
  have hd := DlIn.new w1 (.slice a 3 c) (.slice b 3 k) 0
  have hba : Below w1.heap.size w1 (w1.alloc (.cells #[.slice a 3 c, .slice b 3 k, .int .i64 0] 25)) := (Below.refl _ _).alloc (Nat.le_refl _) _
  have hrd2 := hrd.below hba (Nat.le_refl _)
  have HB2 := Lib.hid (hb1.trans (hba.mono hb1.size))
  unfold dealV
  clear hrd hb1 hba
  go_upto_region 2 with fail
  generalize w1.alloc (.cells #[.slice a 3 c, .slice b 3 k, .int .i64 0] 25) = w2 at hd hrd2 HB2 ⊢
  generalize w1.heap.size = DV at hd ⊢
  have HD := Lib.hid hd
  have HRD := Lib.hid hrd2
  obtain ⟨x0, x1, x2⟩ := hd
  have henc := Encode_any dealD (.slice a 3 c) (.slice b 3 k) dealD_few (by decide) (by decide) dealD_ok w2 hrd2
  unfold dealV at henc
  have HENC := Lib.hid henc
  clear hrd2 henc
  go_wp2_with fail
  refine HENC.out.mono ?_
  rintro e w3 (⟨h, _⟩ | ⟨_, h, _⟩ | ⟨_, _, v, lo, rfl, hlo, hrows, hb3⟩)
  · exact absurd dealD_may h
  · rw [dealD_size] at h; exact absurd h (by decide)
  rw [dealD_enc] at hrows
  obtain ⟨g, cap, rfl, hg1, hg2, hg3, hel⟩ := rows_at hrows (by decide)
  obtain ⟨b1, c1, e1, _, e3, e4, e5⟩ := hel 1 [-1, 2, 3] rfl
  obtain ⟨b2, c2, f1, _, f3, f4, f5⟩ := hel 2 [-2, -3] rfl
  have hc3 : Cells3 w3 g b1 b2 c1 c2 := ⟨e1, e5 0 (-1) rfl, f1, f5 1 (-3) rfl⟩
  have HB3 := Lib.hid hb3
  have hba : Below w3.heap.size w3 (w3.alloc (.cells #[.int .i64 3, .slice (some ⟨g, 0, none⟩) 3 cap] 34)) := (Below.refl _ _).alloc (Nat.le_refl _) _
  have hq : QIn (w3.alloc (.cells #[.int .i64 3, .slice (some ⟨g, 0, none⟩) 3 cap] 34)) w3.heap.size 3 (.slice (some ⟨g, 0, none⟩) 3 cap) := by
    have h := heap_alloc_new w3 (.cells #[.int .i64 3, .slice (some ⟨g, 0, none⟩) 3 cap] 34)
    exact ⟨by rw [cell_of_row _ _ 0 _ _ (0, 0) h]; rfl, by rw [cell_of_row _ _ 1 _ _ (0, 0) h]; rfl⟩
  have hc4 := hc3.below hba (Nat.le_refl _)
  have HB4 := Lib.hid (hb3.trans (hba.mono hb3.size))
  have hlen3 : (([[1], [-1, 2, 3], [-2, -3]] : List (List Int)).length : Nat) = 3 := rfl
  have hits : ((dealD.its.length : Nat) : Int) = 3 := rfl
  simp only [hlen3, hits]
  clear hlo hrows hg1 hg2 hg3 hel e1 e3 e4 e5 f1 f3 f4 f5 hb3 hba hc3 x0 x1 x2 hlen3 hits HENC
  go_upto_region 3 with fail
  generalize w3.alloc (.cells #[.int .i64 3, .slice (some ⟨g, 0, none⟩) 3 cap] 34) = w4 at hq hc4 HB4 ⊢
  generalize w3.heap.size = QV at hq ⊢
  have HQ := Lib.hid hq
  have HC4 := Lib.hid hc4
  have hbt : Below w4.heap.size w4 (w4.alloc (.cells #[.bool true, .bool true, .bool true] 4)) := (Below.refl _ _).alloc (Nat.le_refl _) _
  have hts : Reads (w4.alloc (.cells #[.bool true, .bool true, .bool true] 4)) bV (.slice (some ⟨w4.heap.size, 0, none⟩) 3 3) [true, true, true] := by
    have h := heap_alloc_new w4 (.cells #[.bool true, .bool true, .bool true] 4)
    refine .inr ⟨⟨w4.heap.size, 0, none⟩, 3, rfl, by decide, by decide, fun j n hn => ?_⟩
    rw [add_off17, cell_of_row _ _ _ _ _ (0, 0) h]
    match j with
    | 0 => simp at hn; subst hn; rfl
    | 1 => simp at hn; subst hn; rfl
    | 2 => simp at hn; subst hn; rfl
    | j + 3 => simp at hn
  have HB5 := Lib.hid (HB4.out.trans (hbt.mono HB4.out.size))
  have HX5 := Lib.hid hbt
  have htk := Taken_any dealD [true, true, true] _ _ _ _ (HRD.out.below HB5.out (Nat.le_refl _)) hts
  unfold dealV at htk
  have HTK := Lib.hid htk
  obtain ⟨x0, x1, x2⟩ := HD.out.below HB4.out (Nat.le_refl _)
  clear hq hc4 hbt hts htk
  go_wp2_with fail
  refine HTK.out.mono ?_
  rintro e w6 ⟨v6, L, rfl, hL, hb6, hcase⟩
  have hL3 : L = [0, 1, 2] := by
    rcases hcase with ⟨h, _⟩ | ⟨_, h⟩
    · exact absurd dealD_may h
    · exact h.one dealD_tk
  subst hL3
  obtain ⟨va, vc, rfl⟩ := hL.shape
  have HB6 := Lib.hid (HB5.out.trans (hb6.mono HB5.out.size))
  have HX6 := Lib.hid (HX5.out.trans (hb6.mono HX5.out.size))
  have hr1 := Right_any dealD [0, 1, 2] _ _ _ dealD_ok (by intro n hn; simp at hn; omega) (by decide) w6 (HRD.out.below HB6.out (Nat.le_refl _)) hL
  rw [dealD_no] at hr1
  unfold dealV at hr1
  have HR1 := Lib.hid hr1
  have hq6 : QIn w6 QV 3 (.slice (some ⟨g, 0, none⟩) 3 cap) := by
    obtain ⟨h0, h1⟩ := HQ.out
    exact ⟨(HX6.out.cell (World.block_lt_of_cell? _ _ h0)).trans h0, (HX6.out.cell (World.block_lt_of_cell? _ _ h1)).trans h1⟩
  obtain ⟨q0, q1⟩ := hq6
  obtain ⟨e1, e2, e3, e4⟩ := HC4.out.below HX6.out (Nat.le_refl _)
  clear x0 x1 x2
  obtain ⟨x0, x1, x2⟩ := HD.out.below HB6.out (Nat.le_refl _)
  have hl3 : (([0, 1, 2] : List Int).length : Nat) = 3 := rfl
  simp only [hl3] at HR1 ⊢
  clear hL hb6 hcase hr1 HTK hl3
  go_wp2_with fail
  refine HR1.out.mono ?_
  rintro e w7 ⟨rfl, hb7⟩
  have HB7 := Lib.hid (HB6.out.trans (hb7.mono HB6.out.size))
  have hbt : Below w7.heap.size w7 (w7.alloc (.cells #[.int .i64 0, .int .i64 1] 3)) := (Below.refl _ _).alloc (Nat.le_refl _) _
  have hts : Reads (w7.alloc (.cells #[.int .i64 0, .int .i64 1] 3)) iV (.slice (some ⟨w7.heap.size, 0, none⟩) 2 2) [0, 1] := by
    have h := heap_alloc_new w7 (.cells #[.int .i64 0, .int .i64 1] 3)
    refine .inr ⟨⟨w7.heap.size, 0, none⟩, 2, rfl, by decide, by decide, fun j n hn => ?_⟩
    rw [add_off17, cell_of_row _ _ _ _ _ (0, 0) h]
    match j with
    | 0 => simp at hn; subst hn; rfl
    | 1 => simp at hn; subst hn; rfl
    | j + 2 => simp at hn
  have HB8 := Lib.hid (HB7.out.trans (hbt.mono HB7.out.size))
  have hr2 := Right_any dealD [0, 1] _ _ _ dealD_ok (by intro n hn; simp at hn; omega) (by decide) _ (HRD.out.below HB8.out (Nat.le_refl _)) hts
  rw [dealD_yes] at hr2
  unfold dealV at hr2
  have HR2 := Lib.hid hr2
  clear x0 x1 x2 q0 q1 e1 e2 e3 e4 hb7 hbt hts hr2 HR1
  obtain ⟨x0, x1, x2⟩ := HD.out.below HB7.out (Nat.le_refl _)
  go_wp2_with fail
  refine HR2.out.mono ?_
  rintro e w9 ⟨rfl, hb9⟩
  have HB9 := Lib.hid (HB2.out.trans ((HB8.out.trans (hb9.mono HB8.out.size)).mono HB2.out.size))
  clear x0 x1 x2 hb9 HR2
  go_wp2
  go_ret
  exact ⟨rfl, HB9.out⟩
end Go.Proofs.Ytgfgajekegfdgaa
