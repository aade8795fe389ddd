/-
  Layer 8: value for any way; New. Own work.
-/
import Derived.Test.YthfholnnkdoagaaVst8
namespace Go.Proofs.Ythfholnnkdoagaa
set_option linter.unusedVariables false
set_option linter.unusedSimpArgs false
open Go.RowKit

theorem value8_any (S : Tb) (U : List Pp) (hU : UOk U) : ∀ (k : Nat) (way : List Nat) (wayN : List (List UInt8)) (vw : Value), WayOk U way wayN → way.length + k = 33 → 1 ≤ k → ValC S U k way wayN vw
  | 0, _, _, _, _, _, h => by omega
  | k + 1, way, wayN, vw, hw, hl, _ => value8_step S U hU k way wayN vw hw (by omega) fun j p vw' hj h32 => value8_any S U hU k (way ++ [j]) (wayN ++ [p.1]) vw' (hw.more hU hj) (by rw [List.length_append, List.length_singleton]; omega) (by omega)
/-- put at nothing that is met -/
theorem put8_top (S : Tb) (U : List Pp) (hU : UOk U) (X : Nat → Prop) (D : List Pp) (w : World) (s : List UInt8) (hs : s.length ≤ 100000) (hq : Q8 U [] D) (hst : St S U D X w) :
    Calls Try.prog 36 #[.pointer (some ⟨S.T, 0, none⟩), .string (str s), .string (str []), .slice none 0 0] w (ValP S U X [] (.slice none 0 0) (expandM8 U s D) w) :=
  put8_any S U hU 33 [] [] (.slice none 0 0) (value8_any S U hU 33 [] [] _ (WayOk.nil U) rfl (by omega)) X D w s [] hs hq hst ⟨World.ownsRow_nil _ _ _ _, by simp [Value.ownBlock]⟩ (own8_base hst)
/-- a property of a new name -/
theorem num_more {U : List Pp} {p : Pp} (h : getM U p.1 = none) (t : ByteArray) : putF (numF U) (str p.1) U.length t = numF (U ++ [p]) t := by
  unfold putF numF
  rw [List.findIdx?_append]
  by_cases he : eqS (str p.1) t = true
  · rw [if_pos he]
    have h1 : List.findIdx? (fun q : Pp => eqS (str q.1) t) U = none := by
      rw [← eqS_iff.1 he]
      exact num_none h
    rw [h1]
    simp [List.findIdx?_cons, he]
  · rw [if_neg he]
    have h1 : List.findIdx? (fun q : Pp => eqS (str q.1) t) [p] = none := by
      simp [List.findIdx?_cons, he]
    rw [h1]
    simp
/-- a table that is being made -/
structure NewI (S : Tb) (U : List Pp) (w0 w : World) : Prop where
  st : StV S U [] (.slice none 0 0) w
  base : S.B = w0.heap.size
  b : Below S.B w0 w
theorem prs_app (U V : List Pp) : prs (U ++ V) = prs U ++ prs V := by simp [prs]
theorem placesI_dummy {w w5 w6 : World} {b n : Nat} {f g : ByteArray → Option Nat} (h5 : Places w5 b n f) (h8 : w.heap[b]? = w6.heap[b]?) (h6 : w6.heap[b]? = w5.heap[b]?) (hfg : ∀ t, f t = g t) : Places w b n g :=
  places_frame (h5.same hfg) (h8.trans h6)
theorem placesI_nil {w : World} {b n : Nat} {U V : List Pp} (h : PlacesI w b n (doneF U [])) : PlacesI w b n (doneF V []) :=
  h.same fun i => by
    unfold doneF
    cases U[i]? <;> cases V[i]? <;> rfl
theorem NewI.more {S : Tb} {U : List Pp} {p : Pp} {w0 w w5 w6 : World} {v' : Value} (h : NewI S U w0 w) (hn : getM U p.1 = none)
    (h5 : Places w5 S.N (U.length + 1) (putF (numF U) (str p.1) U.length)) (hg5 : w.grownBy w5 (some S.N))
    (ho : w6.ownsRow S.B 33 2 v' ((prs U).length + 1) (rowPr (prs U) ++ prL ⟨str p.1, str p.2⟩)) (hg6 : w5.grownBy w6 S.vp.ownBlock) :
    NewI { S with vp := v' } (U ++ [p]) w0 (w6.setCell ⟨S.T, 0, none⟩ v') := by
  have hlt : ∀ {k : Nat} {o : Obj}, w.heap[k]? = some o → k < w.heap.size := fun h => (Array.getElem?_eq_some_iff.1 h).1
  obtain ⟨es, ck, hmap⟩ := h.st.done.mapped
  obtain ⟨esN, ckN, hmapN⟩ := h.st.number.mapped
  have hnp : ∀ {k : Nat} {o : Obj}, w.heap[k]? = some o → (∀ cs, o ≠ .cells cs 33 (0, 0)) → S.vp.ownBlock ≠ some k := fun {k o} hk hne e => by
    obtain ⟨cs, h1, _⟩ := own_ty h.st.props e
    rw [h1] at hk; cases hk; exact hne _ rfl
  have h46 : ∀ k, k < w.heap.size → k ≠ S.N → S.vp.ownBlock ≠ some k → w6.heap[k]? = w.heap[k]? := fun k hk h1 h2 =>
    (hg6.block k (Nat.lt_of_lt_of_le hk hg5.size) (fun e => h2 e.symm)).trans (hg5.block k hk (fun e => h1 (by simpa using e)))
  have hTN : S.T ≠ S.N := fun e => by have := h.st.tab; rw [e, hmapN] at this; cases this
  have hT6 := (h46 _ (hlt h.st.tab) hTN (hnp h.st.tab (by intro _ e; cases e))).trans h.st.tab
  have h68 : ∀ k, k ≠ S.T → (w6.setCell ⟨S.T, 0, none⟩ v').heap[k]? = w6.heap[k]? := fun k hk => heap_setCell_other _ _ k _ hk
  have hg6N : w6.heap[S.N]? = w5.heap[S.N]? := hg6.block _ (Nat.lt_of_lt_of_le (hlt hmapN) hg5.size) (fun e => hnp hmapN (by intro _ e; cases e) e.symm)
  have hTD : S.Dn ≠ S.T := fun e => by have := h.st.tab; rw [← e, hmap] at this; cases this
  refine ⟨⟨heap_setCell_same _ S.T 0 _ _ _ hT6, ?_, ?_, ?_, ?_, h.st.ne, h.st.low, ?_, h.st.mxB⟩, h.base, ?_⟩
  · rw [prs_app, rowPr_app, List.length_append]
    refine own_frame (w := w6) ?_ (fun k cs _ hk => (h68 k (fun e => by rw [e, hT6] at hk; cases hk)).trans hk)
    have : rowPr (prs [p]) = prL ⟨str p.1, str p.2⟩ := by simp [rowPr, prs]
    rw [this]
    exact ho
  · rw [List.length_append]
    exact placesI_dummy h5 (h68 _ (Ne.symm hTN)) hg6N (num_more hn)
  · refine placesI_frame (placesI_nil h.st.done) ((h68 _ hTD).trans (h46 _ (hlt hmap) (Ne.symm h.st.ne) (hnp hmap (by intro _ e; cases e))))
  · exact World.ownsRow_nil _ _ _ _
  · have hm := h.st.mx
    have hmB := h.st.mxB
    have hlow := h.st.low
    have h1 : (w6.setCell ⟨S.T, 0, none⟩ v').heap[0]? = w.heap[0]? := (h68 _ (by omega)).trans (h46 _ (World.block_lt_of_cell? w _ hm) (by omega) (fun e => by
      obtain ⟨cs, h1, h2⟩ := own_ty h.st.props e
      omega))
    unfold World.cell? at hm ⊢
    rw [h1]; exact hm
  · have hlow := h.st.low
    refine h.b.trans ?_
    refine ⟨hg6.os.trans hg5.os, hg6.tape.trans hg5.tape, hg6.output.trans hg5.output, by simp; exact Nat.le_trans hg5.size hg6.size, fun k hk => ?_⟩
    have h0 := h.b.size
    have hb := h.base
    exact (h68 k (by show k ≠ S.T; omega)).trans (h46 k (by omega) (by omega) (fun e => by
      obtain ⟨cs, h1, h2⟩ := own_ty h.st.props e
      omega))
end Go.Proofs.Ythfholnnkdoagaa
