/-
  Layer 3: what a parameter that is a tree is. Own work.
-/
import Derived.Test.YtpbkidmdfibaoaaGreatDoorMem3
import Derived.Test.YtpbkidmdfibaoaaGreatDoorOpenT2
import Derived.Lib.SmallJoins
namespace Go.Proofs.YtpbkidmdfibaoaaGreatDoor
set_option linter.unusedVariables false
set_option linter.unusedSimpArgs false
open Go.ChangeShapes Go.WideShapes Go.ChangeAt Go.RowKit

section
variable {H : Type} {enc : TypeId × Value → H} {W : World} {b0 base : Nat} {sp : Nat → Bool} {held : Bool} {v : Value} {d : DataW H} {p : List MemPlace}
/-- four cells that are a tree -/
def NdCs (W : World) (cs : List Value) (x : Tr) (va vk : Value) : Prop := cs = [.string (str x.n), va, vk, .string (str x.t)] ∧ NdV W (allF W) x va vk
set_option maxRecDepth 100000 in
theorem kids_in (n : Nat) (ih : ∀ m, m < n → ∀ (cs : List Value) (y : DataW H × List MemPlace), DataW.trod enc Tryz.prog W base sp held m 26 cs = some y → cs.length = 4 → ∃ x va vk, NdCs W cs x va vk)
    {v : Value} {y : DataW H × List MemPlace} (h : DataW.trod enc Tryz.prog W base sp held n 24 [v] = some y) :
    ∃ ks : List Tr, ∀ (nm t : List UInt8) (ats : List At2) (va : Value), RdAs W va ats → NdV W (allF W) (.mk nm ats ks t) va v := by
  rcases DataW.trod_slice Tryz.underlying24 h with ⟨h0, _⟩ | ⟨a, len, cap, elems, rest, m, hm, h0, _, _, hlc, hcm, hlen, hel, _⟩
  · simp only [List.cons.injEq, and_true] at h0
    subst h0
    exact ⟨[], fun nm t ats va ha => .leaf ha fun hn q hq => ha.block hn q hq⟩
  · simp only [List.cons.injEq, and_true] at h0
    subst h0
    have hk : Tryz.prog.cellsOf 26 = 4 := by kernel_rfl
    rw [hk] at hel
    have each : ∀ i, i < len → ∃ q : Tr × Value × Value, (∀ c u, (ndL q.1 q.2.1 q.2.2)[c]? = some u → W.cell? (a.add (i * 4 + c)) = some u) ∧ NdV W (allF W) q.1 q.2.1 q.2.2 := by
      intro i hi
      have hb := hel i hi
      rw [List.getElem?_eq_getElem (by omega)] at hb
      obtain ⟨cs, h1, h2⟩ := Option.bind_eq_some_iff.1 hb
      obtain ⟨_, hl, hc⟩ := World.cells?_some h1
      obtain ⟨x, va, vk, rfl, hx⟩ := ih m (by omega) cs _ h2 hl
      refine ⟨(x, va, vk), fun c u hu => ?_, hx⟩
      have hc4 : c < 4 := by have := (List.getElem?_eq_some_iff.1 hu).1; simpa [ndL] using this
      rw [← Go.Deep.add_add]
      exact (hc c hc4).trans hu
    obtain ⟨q, hq⟩ := Go.Deep.choose_lt each
    refine ⟨(List.range len).map fun i => (q i).1, fun nm t ats va ha => ?_⟩
    have hget : ∀ (i : Nat) x, ((List.range len).map fun i => (q i).1)[i]? = some x → i < len ∧ x = (q i).1 := fun i x hx => by
      rw [List.getElem?_map] at hx
      by_cases hi : i < len
      · rw [List.getElem?_range hi] at hx
        exact ⟨hi, by simpa using hx.symm⟩
      · rw [List.getElem?_eq_none (by simp; omega)] at hx
        cases hx
    have := NdV.kids (w := W) (F := allF W) (n := nm) (t := t) (ks := (List.range len).map fun i => (q i).1) (a := a) (cap := cap) (fun i => (q i).2.1) (fun i => (q i).2.2) ha (fun hn k hk => ha.block hn k hk)
      (fun hn => by
        have hl : 0 < len := by
          rcases Nat.eq_zero_or_pos len with h0 | h0
          · rw [h0] at hn; exact absurd rfl hn
          · exact h0
        have h1 := (hq 0 hl).1 0 _ rfl
        have h2 := World.block_lt_of_cell? W _ h1
        rw [add_blk] at h2
        exact h2)
      (by simpa using hlc) (by unfold maxLen at hcm; exact hcm)
      (fun i x c u hx hu => by
        obtain ⟨hi, rfl⟩ := hget i x hx
        exact (hq i hi).1 c u hu)
      (fun i x hx => by
        obtain ⟨hi, rfl⟩ := hget i x hx
        exact (hq i hi).2)
    simpa using this
set_option maxRecDepth 100000 in
theorem node_in : ∀ (n : Nat) (cs : List Value) (y : DataW H × List MemPlace), DataW.trod enc Tryz.prog W base sp held n 26 cs = some y → cs.length = 4 → ∃ x va vk, NdCs W cs x va vk := by
  intro n
  induction n using Nat.strongRecOn with
  | _ n ih =>
    intro cs y h hl
    have hs : Tryz.prog.cellsOf 9 = 1 := by kernel_rfl
    have hx : Tryz.prog.cellsOf 23 = 1 := by kernel_rfl
    have hk : Tryz.prog.cellsOf 24 = 1 := by kernel_rfl
    obtain ⟨xs, m, hm, _, _, hlen, hf⟩ := DataW.trod_struct Tryz.underlying26 h
    match xs, hlen with
    | [y0, y1, y2, y3], _ =>
      have k0 : DataW.trod enc Tryz.prog W base sp held m 9 ((cs.drop 0).take (Tryz.prog.cellsOf 9)) = some y0 := hf 0 _ rfl
      have k1 : DataW.trod enc Tryz.prog W base sp held m 23 ((cs.drop 1).take (Tryz.prog.cellsOf 23)) = some y1 := hf 1 _ rfl
      have k2 : DataW.trod enc Tryz.prog W base sp held m 24 ((cs.drop 2).take (Tryz.prog.cellsOf 24)) = some y2 := hf 2 _ rfl
      have k3 : DataW.trod enc Tryz.prog W base sp held m 9 ((cs.drop 3).take (Tryz.prog.cellsOf 9)) = some y3 := hf 3 _ rfl
      match cs, hl with
      | [c0, c1, c2, c3], _ =>
        simp only [hs, hx, hk, List.drop_zero, List.drop_succ_cons, List.take_succ_cons, List.take_zero] at k0 k1 k2 k3
        obtain ⟨s0, rfl, _⟩ := text_in k0
        obtain ⟨ats, r1, _⟩ := attrs_in k1
        obtain ⟨ks, r2⟩ := kids_in m (fun j hj => ih j (by omega)) k2
        obtain ⟨s3, rfl, _⟩ := text_in k3
        refine ⟨.mk s0.data.toList ats ks s3.data.toList, c1, c2, ?_, r2 _ _ _ _ r1⟩
        show _ = [Value.string (str s0.data.toList), c1, c2, Value.string (str s3.data.toList)]
        rw [← str_ofT, ← str_ofT]
set_option maxRecDepth 100000 in
theorem open_node (hv : Value.okWide Tryz.prog W .any b0 26 v) (h : DataW.Trod enc Tryz.prog W base sp held 26 v d p) :
    ∃ (x : Tr) (va vk : Value), v = .agg #[.string (str x.n), va, vk, .string (str x.t)] ∧ NdV W (allF W) x va vk := by
  have hu := Tryz.underlying26
  simp only [Value.okWide, hu] at hv
  obtain ⟨cs, rfl, hsz, _⟩ := hv
  have h4 : cs.size = 4 := hsz.trans (by kernel_rfl)
  obtain ⟨fuel, hf⟩ := h
  obtain ⟨x, va, vk, hc, hx⟩ := node_in fuel _ _ hf (by simpa [Value.cells] using h4)
  refine ⟨x, va, vk, ?_, hx⟩
  have : cs.toList = [.string (str x.n), va, vk, .string (str x.t)] := by simpa [Value.cells] using hc
  rw [← Array.toArray_toList (xs := cs), this]
end
end Go.Proofs.YtpbkidmdfibaoaaGreatDoor
