/-
  Layer 17: what is taken by truths that make all clauses true is right, and nothing of it is unwanted: in mathematics. Own work.
-/
import Derived.Test.YtgfgajekegfdgaaRefRt17
namespace Go.Proofs.Ytgfgajekegfdgaa
set_option linter.unusedVariables false
set_option linter.unusedSimpArgs false
open Go.RowKit

theorem Rch.alw {d : Dl} {ts : List Bool} {r i : Nat} (h : Rch d ts r i) : alw ts i := h (fun i => Go.Proofs.Ytgfgajekegfdgaa.alw ts i) (fun h => h) (fun _ _ _ _ h => h)
theorem Rch.back {d : Dl} {ts : List Bool} {r i : Nat} (h : Rch d ts r i) : i = r ∨ ∃ k, Rch d ts r k ∧ Edge d k i := by
  have := h (fun i => Rch d ts r i ∧ (i = r ∨ ∃ k, Rch d ts r k ∧ Edge d k i)) (fun h => ⟨Rch.refl h, .inl rfl⟩) (fun i y hi he ha => ⟨hi.1.step he ha, .inr ⟨i, hi.1, he⟩⟩)
  exact this.2
theorem tk_mem {d : Dl} {ts : List Bool} {L : List Int} (h : IsTk d ts L) {n : Int} : n ∈ L ↔ ∃ i : Nat, i < d.its.length ∧ Rch d ts d.root.toNat i ∧ n = i := by
  obtain ⟨M, h1, rfl, h2⟩ := h
  rw [mem_idxs]
  constructor
  · rintro ⟨i, hi, ha, rfl⟩; exact ⟨i, hi, (h2 i).1 ha, rfl⟩
  · rintro ⟨i, hi, ha, rfl⟩; exact ⟨i, hi, (h2 i).2 ha, rfl⟩
theorem tk_len {d : Dl} {ts : List Bool} {L : List Int} (h : IsTk d ts L) : L.length ≤ d.its.length := by
  obtain ⟨M, h1, rfl, h2⟩ := h
  exact idxs_len _ _
/-- P17.5, its first half. -/
theorem less_right {d : Dl} {ts : List Bool} {L : List Int} (hm : mayD d = 0) (hall : ∀ c ∈ encL d, anyT ts c = true) (h : IsTk d ts L) : rightB d L = true := by
  obtain ⟨-, ⟨hr0, hr1⟩, hlen, -⟩ := mayD_zero hm
  obtain ⟨h1, h2, h3⟩ := (all_true hm).1 hall
  rw [right_iff hm]
  refine ⟨(tk_mem h).2 ⟨d.root.toNat, by omega, Rch.refl h1, by omega⟩, ?_, ?_, ?_⟩
  · intro n hn
    obtain ⟨i, hi, -, rfl⟩ := (tk_mem h).1 hn
    exact ⟨by omega, by omega⟩
  · intro a ha b hb hs
    obtain ⟨i, hi, hri, rfl⟩ := (tk_mem h).1 ha
    obtain ⟨j, hj, hrj, rfl⟩ := (tk_mem h).1 hb
    rcases Nat.lt_trichotomy i j with hl | hl | hl
    · exact absurd hrj.alw (h3 i j hl hj hs hri.alw)
    · rw [hl]
    · exact absurd hri.alw (h3 j i hl hi (by rw [sameN_comm] at hs; exact hs) hrj.alw)
  · intro n hn w hw
    obtain ⟨i, hi, hri, rfl⟩ := (tk_mem h).1 hn
    obtain ⟨ws, hws, he⟩ := ws_at hm (show (0 : Int) ≤ (i : Nat) by omega) (by omega)
    rw [he] at hw
    rw [Int.toNat_natCast] at hws
    obtain ⟨x, hx, ha⟩ := h2 i ws w hws hw hri.alw
    have hp := wants_pos hm hws hw x hx
    exact ⟨x, hx, (tk_mem h).2 ⟨x.toNat, by omega, hri.step ⟨ws, w, hws, hw, by rw [Int.toNat_of_nonneg hp.1]; exact hx⟩ ha, by omega⟩⟩
def inWs (n : Int) (ws : List (List Int)) : Bool := ws.any fun w => hasB w n
def inAll (d : Dl) (n : Int) (l : List Int) : Bool := l.any fun k => inWs n (d.ws.getD k.toNat [])
theorem inWs_snoc {n : Int} {ws : List (List Int)} {p : Nat} {x : List Int} (h : ws[p]? = some x) : inWs n (ws.take (p + 1)) = (inWs n (ws.take p) || hasB x n) := by
  unfold inWs
  rw [take_snoc _ p x h, List.any_append]; simp
theorem inAll_snoc {d : Dl} {n k : Int} {l : List Int} {q : Nat} {ws : List (List Int)} (h : l[q]? = some k) (hw : d.ws[k.toNat]? = some ws) : inAll d n (l.take (q + 1)) = (inAll d n (l.take q) || inWs n ws) := by
  unfold inAll
  rw [take_snoc _ q k h, List.any_append, List.any_cons, List.any_nil, Bool.or_false, List.getD_eq_getElem?_getD, hw]; rfl
/-- P17.5, its second half. -/
theorem less_wanted {d : Dl} {ts : List Bool} {L : List Int} (hm : mayD d = 0) (h : IsTk d ts L) {n : Int} (hn : n ∈ L) : ((n == d.root) || inAll d n L) = true ∧ alw ts n.toNat := by
  obtain ⟨-, ⟨hr0, hr1⟩, hlen, -⟩ := mayD_zero hm
  obtain ⟨i, hi, hri, rfl⟩ := (tk_mem h).1 hn
  refine ⟨?_, by rw [Int.toNat_natCast]; exact hri.alw⟩
  rw [Bool.or_eq_true]
  rcases hri.back with he | ⟨k, hk, ws, w, hws, hw, hiw⟩
  · left
    rw [he, Int.toNat_of_nonneg hr0]; simp
  · right
    have hkl : k < d.ws.length := (List.getElem?_eq_some_iff.1 hws).1
    refine List.any_eq_true.2 ⟨(k : Nat), (tk_mem h).2 ⟨k, by omega, hk, rfl⟩, ?_⟩
    rw [Int.toNat_natCast, List.getD_eq_getElem?_getD, hws]
    exact List.any_eq_true.2 ⟨w, hw, hasB_iff.2 hiw⟩
end Go.Proofs.Ytgfgajekegfdgaa
