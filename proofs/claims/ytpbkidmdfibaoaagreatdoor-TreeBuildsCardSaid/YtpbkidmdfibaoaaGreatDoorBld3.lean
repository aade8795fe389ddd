/-
  Layer 3: the contract of Build. Own work.
-/
import Derived.Test.YtpbkidmdfibaoaaGreatDoorGroA3
import Derived.Test.YtpbkidmdfibaoaaGreatDoorAll2b
import Derived.Test.YtpbkidmdfibaoaaGreatDoorErr2
import Derived.Laws.Tables
namespace Go.Proofs.YtpbkidmdfibaoaaGreatDoor
set_option linter.unusedVariables false
set_option linter.unusedSimpArgs false
open Go.RowKit

/-- what Build leaves -/
def BuildP (l : List UInt8) (w : World) (e : Ending) (w' : World) : Prop :=
  Below w.heap.size w w' ∧ match buildM l with
  | .ok t => ∃ va vk, e = .returned (.tuple #[.agg #[.string (str t.n), va, vk, .string (str t.t)], .int .i64 0, .agg #[.int .i64 0, .int .i64 0, .int .i64 0]]) ∧ NdV w' (allF w') t va vk
  | .bad c o => e = .returned (.tuple #[.agg #[.string ⟨#[]⟩, .slice none 0 0, .slice none 0 0, .string ⟨#[]⟩], .int .i64 c, .agg #[.int .i64 (o : Int), .int .i64 (lineS (l.take o)), .int .i64 (colS (l.take o))]])
theorem build_results (tmps : Array Value) (w : World) (A B : Nat) (a b c d y p0 p1 p2 : Value) (h2 : tmps.getD 2 undef = .pointer (some ⟨A, 0, none⟩)) (h3 : tmps.getD 3 undef = y) (h4 : tmps.getD 4 undef = .pointer (some ⟨B, 0, none⟩))
    (hA : w.heap[A]? = some (.cells #[a, b, c, d] 26 (0, 0))) (hB : w.heap[B]? = some (.cells #[p0, p1, p2] 29 (0, 0))) :
    (results Tryz.f7 tmps).run Tryz.prog w = .ok (.tuple #[.agg #[a, b, c, d], y, .agg #[p0, p1, p2]]) w := by
  have h2' : tmps[2]?.getD undef = .pointer (some ⟨A, 0, none⟩) := by simpa using h2
  have h3' : tmps[3]?.getD undef = y := by simpa using h3
  have h4' : tmps[4]?.getD undef = .pointer (some ⟨B, 0, none⟩) := by simpa using h4
  have l1 := run_loadVar_row w A 26 26 #[a, b, c, d] (0, 0) _ hA Tryz.underlying26 rfl (by kernel_rfl)
  have l2 := run_loadVar_row w B 29 29 #[p0, p1, p2] (0, 0) _ hB Tryz.underlying29 rfl (by kernel_rfl)
  simp [results, Tryz.results7, h2', h3', h4', asAddr, l1, l2]
/-- the two result variables -/
structure Re3 (w : World) (A B : Nat) (a b c d p q r : Value) : Prop where
  a : w.heap[A]? = some (.cells #[a, b, c, d] 26 (0, 0))
  b : w.heap[B]? = some (.cells #[p, q, r] 29 (0, 0))
  n : A ≠ B
def stA (w : World) (A : Nat) (a b c d : Value) : World := (((w.setCell ⟨A, 0, none⟩ a).setCell ⟨A, 1, none⟩ b).setCell ⟨A, 2, none⟩ c).setCell ⟨A, 3, none⟩ d
def stB (w : World) (B : Nat) (p q r : Value) : World := ((w.setCell ⟨B, 0, none⟩ p).setCell ⟨B, 1, none⟩ q).setCell ⟨B, 2, none⟩ r
theorem stA_mvd (w : World) (A : Nat) (a b c d : Value) : Mvd [A] w (stA w A a b c d) := ((Mvd.of_set _ _ _ _).trans (Mvd.of_set _ _ _ _)).trans ((Mvd.of_set _ _ _ _).trans (Mvd.of_set _ _ _ _))
theorem stB_mvd (w : World) (B : Nat) (p q r : Value) : Mvd [B] w (stB w B p q r) := ((Mvd.of_set _ _ _ _).trans (Mvd.of_set _ _ _ _)).trans (Mvd.of_set _ _ _ _)
theorem Re3.setA {w : World} {A B : Nat} {a b c d p q r : Value} (h : Re3 w A B a b c d p q r) (a' b' c' d' : Value) : Re3 (stA w A a' b' c' d') A B a' b' c' d' p q r := by
  have h1 := heap_setCell_same w A 0 _ _ a' h.a
  have h2 := heap_setCell_same _ A 1 _ _ b' h1
  have h3 := heap_setCell_same _ A 2 _ _ c' h2
  have h4 := heap_setCell_same _ A 3 _ _ d' h3
  exact ⟨h4, ((stA_mvd w A a' b' c' d').block B (Array.getElem?_eq_some_iff.1 h.b).1 (fun hx => h.n (List.mem_singleton.1 hx).symm)).trans h.b, h.n⟩
theorem Re3.setB {w : World} {A B : Nat} {a b c d p q r : Value} (h : Re3 w A B a b c d p q r) (p' q' r' : Value) : Re3 (stB w B p' q' r') A B a b c d p' q' r' := by
  have h1 := heap_setCell_same w B 0 _ _ p' h.b
  have h2 := heap_setCell_same _ B 1 _ _ q' h1
  have h3 := heap_setCell_same _ B 2 _ _ r' h2
  exact ⟨((stB_mvd w B p' q' r').block A (Array.getElem?_eq_some_iff.1 h.a).1 (fun hx => h.n (List.mem_singleton.1 hx))).trans h.a, h3, h.n⟩
/-- what the two results' cells say -/
theorem Re3.cells {w : World} {A B : Nat} {a b c d p q r : Value} (h : Re3 w A B a b c d p q r) :
    (w.cell? ⟨A, 0, none⟩ = some a ∧ w.cell? ⟨A, 1, none⟩ = some b ∧ w.cell? ⟨A, 2, none⟩ = some c ∧ w.cell? ⟨A, 3, none⟩ = some d ∧ w.cell? ⟨B, 0, none⟩ = some p ∧ w.cell? ⟨B, 1, none⟩ = some q ∧ w.cell? ⟨B, 2, none⟩ = some r) ∧
    (w.frozen? ⟨A, 0, none⟩ = false ∧ w.frozen? ⟨A, 1, none⟩ = false ∧ w.frozen? ⟨A, 2, none⟩ = false ∧ w.frozen? ⟨A, 3, none⟩ = false ∧ w.frozen? ⟨B, 0, none⟩ = false ∧ w.frozen? ⟨B, 1, none⟩ = false ∧ w.frozen? ⟨B, 2, none⟩ = false) ∧ ¬ A = B ∧ ¬ B = A :=
  ⟨⟨by rw [cell_of_row w A 0 _ _ (0, 0) h.a]; rfl, by rw [cell_of_row w A 1 _ _ (0, 0) h.a]; rfl, by rw [cell_of_row w A 2 _ _ (0, 0) h.a]; rfl, by rw [cell_of_row w A 3 _ _ (0, 0) h.a]; rfl, by rw [cell_of_row w B 0 _ _ (0, 0) h.b]; rfl, by rw [cell_of_row w B 1 _ _ (0, 0) h.b]; rfl, by rw [cell_of_row w B 2 _ _ (0, 0) h.b]; rfl⟩,
    ⟨frozen_of_row w A 0 _ _ h.a, frozen_of_row w A 1 _ _ h.a, frozen_of_row w A 2 _ _ h.a, frozen_of_row w A 3 _ _ h.a, frozen_of_row w B 0 _ _ h.b, frozen_of_row w B 1 _ _ h.b, frozen_of_row w B 2 _ _ h.b⟩, h.n, fun e => h.n e.symm⟩
theorem Re3.below {w w' : World} {A B : Nat} {a b c d p q r : Value} (h : Re3 w A B a b c d p q r) (hb : Below w.heap.size w w') : Re3 w' A B a b c d p q r :=
  ⟨(hb.block A (Array.getElem?_eq_some_iff.1 h.a).1).trans h.a, (hb.block B (Array.getElem?_eq_some_iff.1 h.b).1).trans h.b, h.n⟩
/-- an error is answered: both ways of storing -/
theorem Re3.bad {w wk : World} {A B : Nat} {a b c d p q r : Value} (h : Re3 wk A B a b c d p q r) (hb : Below w.heap.size w wk) (hA : w.heap.size ≤ A) (hB : w.heap.size ≤ B) (a' b' c' d' p' q' r' : Value) :
    (Re3 (stB (stA wk A a' b' c' d') B p' q' r') A B a' b' c' d' p' q' r' ∧ Below w.heap.size w (stB (stA wk A a' b' c' d') B p' q' r')) ∧
    (Re3 (stA (stB wk B p' q' r') A a' b' c' d') A B a' b' c' d' p' q' r' ∧ Below w.heap.size w (stA (stB wk B p' q' r') A a' b' c' d')) := by
  have k1 : ∀ k ∈ [A], w.heap.size ≤ k := fun k hk => by rw [List.mem_singleton.1 hk]; exact hA
  have k2 : ∀ k ∈ [B], w.heap.size ≤ k := fun k hk => by rw [List.mem_singleton.1 hk]; exact hB
  refine ⟨⟨(h.setA a' b' c' d').setB p' q' r', ?_⟩, ⟨(h.setB p' q' r').setA a' b' c' d', ?_⟩⟩
  · exact hb.trans (((stA_mvd wk A a' b' c' d').below hb.size k1).trans ((stB_mvd _ B p' q' r').below (Nat.le_trans hb.size (stA_mvd wk A a' b' c' d').size) k2))
  · exact hb.trans (((stB_mvd wk B p' q' r').below hb.size k2).trans ((stA_mvd _ A a' b' c' d').below (Nat.le_trans hb.size (stB_mvd wk B p' q' r').size) k1))
theorem Re3.badD {w wk : World} {A B : Nat} {a b c d p q r : Value} (h : Re3 wk A B a b c d p q r) (hb : Below w.heap.size w wk) (hA : w.heap.size ≤ A) (hB : w.heap.size ≤ B) (a' b' c' d' p' q' r' : Value) :
    (Re3 (stB (stA wk A a' b' c' d') B p' q' r').drew A B a' b' c' d' p' q' r' ∧ Below w.heap.size w (stB (stA wk A a' b' c' d') B p' q' r').drew) ∧
    (Re3 (stA (stB wk B p' q' r') A a' b' c' d').drew A B a' b' c' d' p' q' r' ∧ Below w.heap.size w (stA (stB wk B p' q' r') A a' b' c' d').drew) := by
  obtain ⟨⟨h1, h2⟩, ⟨h3, h4⟩⟩ := h.bad hb hA hB a' b' c' d' p' q' r'
  exact ⟨⟨h1.below (Below.refl _ _).drew, h2.drew⟩, ⟨h3.below (Below.refl _ _).drew, h4.drew⟩⟩
theorem add_ne {g : Gs} {x : Tk} {c : Int} (h : addG g x = .bad c) : c ≠ 0 := by
  unfold addG at h
  split at h
  · unfold beginG at h
    split at h
    · cases h; decide
    · split at h
      · cases h; decide
      · split at h <;> cases h
  · split at h
    · unfold endG at h
      split at h
      · cases h; decide
      · split at h
        · cases h
        · cases h; decide
    · split at h
      · unfold textG at h
        split at h
        · split at h
          · cases h
          · cases h; decide
        · split at h
          · cases h
          · split at h
            · split at h
              · cases h
              · split at h
                · cases h; decide
                · cases h
            · split at h
              · cases h; decide
              · cases h
      · cases h
theorem grow_ok {n : Nat} {g g' : Gs} {x : Tk} {xs : List Tk} (h : addG g x = .ok g') : growM n g (x :: xs) = growM n g' xs := by rw [growM, h]
theorem grow_bad {n : Nat} {g : Gs} {x : Tk} {xs : List Tk} {c : Int} (h : addG g x = .bad c) : growM n g (x :: xs) = .bad c x.o := by rw [growM, h]
theorem bfin_bad {l : List UInt8} {c : Int} {o : Nat} {w w9 : World} (hM : buildM l = .bad c o) (hb : Below w.heap.size w w9) :
    BuildP l w (.returned (.tuple #[.agg #[.string ⟨#[]⟩, .slice none 0 0, .slice none 0 0, .string ⟨#[]⟩], .int .i64 c, .agg #[.int .i64 (o : Int), .int .i64 (lineS (l.take o)), .int .i64 (colS (l.take o))]])) w9 := by
  unfold BuildP
  rw [hM]
  exact ⟨hb, rfl⟩
/-- attributes that were read lie in no result variable -/
theorem ats_apart {w : World} {A B : Nat} {p q r : Int} {va : Value} {l : List At2} (h : Re3 w A B (.string ⟨#[]⟩) (.slice none 0 0) (.slice none 0 0) (.string ⟨#[]⟩) (.int .i64 p) (.int .i64 q) (.int .i64 r)) (ha : RdAs w va l) (hl : l ≠ []) :
    ∀ k, va.ownBlock = some k → k < w.heap.size ∧ k ≠ A ∧ k ≠ B := by
  intro k hk
  refine ⟨ha.block hl k hk, ?_⟩
  rcases ha with ⟨rfl, _⟩ | ⟨a, cap, rfl, _, _, h5⟩
  · cases hk
  · cases hk
    obtain ⟨x, hx⟩ : ∃ x, l[0]? = some x := ⟨_, List.getElem?_eq_getElem (List.length_pos_iff.2 hl)⟩
    obtain ⟨g1, g2⟩ := h5 0 x hx
    rw [Nat.zero_mul, show a.add 0 = a by unfold Addr.add; rw [if_pos rfl]] at g1 g2
    constructor
    · rintro rfl
      rw [cell_of_row w a.block _ _ _ (0, 0) h.a] at g2
      match ho : a.off with
      | 0 => rw [ho] at g2; simp at g2
      | 1 => rw [ho] at g2; simp at g2
      | 2 =>
        unfold World.cell? at g1
        rw [h.a] at g1
        simp only [ho] at g1
        split at g1 <;> simp at g1
      | n + 3 => rw [ho] at g2; simp at g2
    · rintro rfl
      rw [cell_of_row w a.block _ _ _ (0, 0) h.b] at g2
      match ho : a.off with
      | 0 => rw [ho] at g2; simp at g2
      | 1 => rw [ho] at g2; simp at g2
      | n + 2 => rw [ho] at g2; simp at g2
/-- the blocks that were there, but for the result variables -/
def OdAB (w : World) (A B : Nat) : Nat → Prop := fun b => b < w.heap.size ∧ b ≠ A ∧ b ≠ B
theorem GR.start (w3 : World) (A B : Nat) : GR w3 (OdAB w3 A B) w3.heap.size ⟨[], none, 0⟩ [] (.slice none 0 0) (.pointer none) (OdAB w3 A B) (w3.alloc (.cells #[.slice none 0 0, .pointer none, .int .i64 0] 49)) :=
  ⟨(Below.refl _ _).alloc (Nat.le_refl _) _, heap_alloc_new w3 _, Nat.le_refl _, fun b h => by have := h.1; simp; omega, fun b h => h, fun b h _ => h, rfl, by simp, .inl (World.ownsRow_nil _ _ _ _), rfl, by simp, by simp [mutL, Value.ownBlock],
    fun b hb h => by simp [mutL, Value.ownBlock] at hb; have := h.1; omega, by simp, by simp, by simp [Tr.sizes]⟩
theorem GR.apart {w0 w : World} {A B G : Nat} {g : Gs} {fs : List Fr} {vo vr : Value} {F : Nat → Prop} (h : GR w0 (OdAB w0 A B) G g fs vo vr F w) (hA : A < w0.heap.size) (hB : B < w0.heap.size) : ∀ b, F b → b ≠ A ∧ b ≠ B := by
  intro b hb
  by_cases hl : b < w0.heap.size
  · exact (h.nab b hb hl).2
  · omega
/-- the tree is answered -/
theorem bfin_ok {l : List UInt8} {w0 w wr : World} {A B G : Nat} {g : Gs} {fs : List Fr} {vo vr : Value} {F : Nat → Prop} (h : GR w0 (OdAB w0 A B) G g fs vo vr F wr) (hA : A < w0.heap.size) (hB : B < w0.heap.size) {t : Tr} (hM : buildM l = .ok t) {va vk : Value} (hv : NdV wr F t va vk)
    {w9 : World} (hm : Mvd [A, B] wr w9) (hb : Below w.heap.size w w9) :
    BuildP l w (.returned (.tuple #[.agg #[.string (str t.n), va, vk, .string (str t.t)], .int .i64 0, .agg #[.int .i64 0, .int .i64 0, .int .i64 0]])) w9 := by
  unfold BuildP
  rw [hM]
  refine ⟨hb, va, vk, rfl, hv.frame (fun b hF => hm.block b (h.fl b hF) fun hx => ?_) fun b hF => Nat.lt_of_lt_of_le (h.fl b hF) hm.size⟩
  obtain ⟨h1, h2⟩ := h.apart hA hB b hF
  simp only [List.mem_cons, List.not_mem_nil, or_false] at hx
  rcases hx with hx | hx
  · exact h1 hx
  · exact h2 hx
end Go.Proofs.YtpbkidmdfibaoaaGreatDoor
