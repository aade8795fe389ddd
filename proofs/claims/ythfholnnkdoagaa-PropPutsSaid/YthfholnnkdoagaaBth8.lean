/-
  Layer 8: both tables beside one another; the law's cut as a function. Own work.
-/
import Derived.Test.YthfholnnkdoagaaREx8
namespace Go.Proofs.Ythfholnnkdoagaa
set_option linter.unusedVariables false
set_option linter.unusedSimpArgs false
open Go.RowKit

def cut8 (s : ByteArray) : List UInt8 := s.data.toList.take 1000
theorem cut8_len (s : ByteArray) : (cut8 s).length ≤ 1000 := by unfold cut8; rw [List.length_take]; omega
set_option maxHeartbeats 1000000 in
theorem cutL8_eq (s : ByteArray) (hs : s.size ≤ 9223372036854775807) (w : World) :
    Calls Try.prog 11 #[.string s] w fun e w' => e = .returned (.string (str (cut8 s))) ∧ w' = w := by
  by_cases h : 1000 < s.size
  · have h1 : (1000 : Int) < s.size := by omega
    have H2 := Lib.hid (show s.extract 0 1000 = str (cut8 s) from by rw [ext_str, List.drop_zero]; rfl)
    go_enter Try.func11, Try.ntmps11
    go_wp2
    go_ret
    exact ⟨by rw [H2.out]; rfl, rfl⟩
  · have h1 : (s.size : Int) ≤ 1000 := by omega
    have H2 := Lib.hid (show s = str (cut8 s) from by
      have e : cut8 s = s.data.toList := by unfold cut8; rw [List.take_of_length_le (by simp; omega)]
      rw [e]
      unfold str; rw [Array.toArray_toList])
    go_enter Try.func11, Try.ntmps11
    go_wp2
    go_ret
    exact ⟨by rw [← H2.out]; rfl, rfl⟩
theorem firsts_get (L : List Pp) (n : List UInt8) : getM (firsts [] L) n = getM L n := by
  rw [get_firsts]
  rfl
theorem Fit8.ok {L : List Pp} (h : Fit8 L) : UOk (firsts [] L) := by
  refine ⟨nodup_firsts L [] (by simp), ?_, fun p hp => ?_⟩
  · have := len_firsts L []
    have := h.1
    simp only [List.length_nil] at *
    omega
  · rcases mem_firsts L [] p hp with h1 | h1
    · simp at h1
    · exact h.2 p h1
theorem Q8.both {U L : List Pp} {way : List (List UInt8)} {D : List Pp} (h : Q8 U way D) (hg : ∀ n, getM U n = getM L n) : Q8 L way D :=
  ⟨h.notin, h.nodup, fun p hp => by rw [← hg]; exact h.known p hp, h.small⟩
section
variable {S : Tb} {U D : List Pp} {X : Nat → Prop} {w w' : World} {B R : Nat} {L D' : List Pp} {vL vd vo vd' vo' vv : Value} {bad : Int} {nm : List UInt8} {ways : List (List UInt8)}
/-- the blocks of the answer's table that turn -/
def rX (R : Nat) (vd vo : Value) : Nat → Prop := fun k => k = R ∨ vd.ownBlock = some k ∨ vo.ownBlock = some k
theorem RT8.kp (h : RT8 B R L vL bad nm ways D vd vo w) (hk : Kp S X w w') (hX : ∀ k, rX R vd vo k → X k) : RT8 B R L vL bad nm ways D vd vo w' :=
  ⟨(hk.x R (hX R (.inl rfl)) (Array.getElem?_eq_some_iff.1 h.tab).1).trans h.tab, own_frame h.l fun k cs _ hc => hk.ty _ _ _ _ hc (by decide) (by decide) (by decide), h.lt,
    own_frame h.done fun k cs _ hc => hk.ty _ _ _ _ hc (by decide) (by decide) (by decide), own_frame h.opn fun k cs hb hc => (hk.x k (hX k (.inr (.inr hb))) (Array.getElem?_eq_some_iff.1 hc).1).trans hc, h.low⟩
/-- the program's table when the answer's has been used -/
theorem St.mw (h : St S U D X w) (hx : ∀ k, rX R vd vo k → X k) (hvp : (∀ k, S.vp.ownBlock = some k → k < B) ∧ S.B ≤ B) (ht : RT8 B R L vL bad nm ways D' vd vo w) (hm : Mw R vd vo w w' vd' vo') (hR : R < w'.heap.size)
    (hd' : ∀ k, vd'.ownBlock = some k → k < w'.heap.size) (ho' : ∀ k, vo'.ownBlock = some k → k < w'.heap.size) : St S U D (rX R vd' vo') w' := by
  obtain ⟨vv, hv, hX⟩ := h
  have hlt : ∀ {k : Nat} {o : Obj}, w.heap[k]? = some o → k < w.heap.size := fun h => (Array.getElem?_eq_some_iff.1 h).1
  have hb := hm.below ht
  have hh : ∀ {k : Nat} {o : Obj}, w.heap[k]? = some o → ¬ rX R vd vo k → w'.heap[k]? = some o := fun {k o} hk hn => (hm.block k (hlt hk) (fun e => hn (.inl e)) (fun e => hn (.inr (.inl e))) (fun e => hn (.inr (.inr e)))).trans hk
  have hty : ∀ {k : Nat}, rX R vd vo k → ∃ cs t, w.heap[k]? = some (Obj.cells cs t (0, 0)) ∧ t ≠ 75 ∧ B ≤ k := fun {k} hk => by
    rcases hk with rfl | hk | hk
    · exact ⟨_, _, ht.tab, by decide, ht.low⟩
    · obtain ⟨cs, h1, h2⟩ := own_ty ht.done hk; exact ⟨cs, _, h1, by decide, h2⟩
    · obtain ⟨cs, h1, h2⟩ := own_ty ht.opn hk; exact ⟨cs, _, h1, by decide, h2⟩
  obtain ⟨esN, cN, hN⟩ := hv.number.mapped
  obtain ⟨esD, cD, hD⟩ := hv.done.mapped
  have hnm : ∀ {k : Nat} {es : _} {c : Nat}, w.heap[k]? = some (Obj.map es c) → ¬ rX R vd vo k := fun {k es c} hk hx => by
    obtain ⟨cs, t, h1, _⟩ := hty hx
    rw [hk] at h1; cases h1
  have hsz := hv.olds
  refine ⟨vv, ⟨hh hv.tab (fun hx2 => ?_), own_frame hv.props fun k cs hk hc => (hb.block k (hvp.1 k hk)).trans hc, places_frame hv.number ((hh hN (hnm hN)).trans hN.symm), placesI_frame hv.done ((hh hD (hnm hD)).trans hD.symm),
    own_frame hv.vals fun k cs hk hc => hh hc fun hx2 => (hX k (hx k hx2)).2.2.2 hk, hv.ne, hv.low, ?_, hv.mxB⟩, fun k hk => ?_⟩
  · obtain ⟨cs, t, h1, h2, _⟩ := hty hx2
    rw [hv.tab] at h1
    simp only [Option.some.injEq, Obj.cells.injEq] at h1
    exact h2 h1.2.1.symm
  · have := hv.mxB
    exact (hb.cell (p := ⟨0, 0, none⟩) (by show 0 < B; have := hvp.2; omega)).trans hv.mx
  · have old : X k → k < w.heap.size ∧ k ≠ S.T ∧ k ≠ S.Dn ∧ vv.ownBlock ≠ some k := fun h => hX k h
    have fresh : w.heap.size ≤ k → k ≠ S.T ∧ k ≠ S.Dn ∧ vv.ownBlock ≠ some k := fun h => ⟨by omega, by omega, fun e => by have := hsz.2.2 k e; omega⟩
    rcases hk with rfl | hk | hk
    · exact ⟨hR, (old (hx k (.inl rfl))).2⟩
    · refine ⟨hd' k hk, ?_⟩
      rcases hm.nd with e | e
      · rw [e] at hk; exact (old (hx k (.inr (.inl hk)))).2
      · exact fresh (e k hk)
    · refine ⟨ho' k hk, ?_⟩
      rcases hm.no with e | e
      · rw [e] at hk; exact (old (hx k (.inr (.inr hk)))).2
      · exact fresh (e k hk)
end
end Go.Proofs.Ythfholnnkdoagaa
