/-
  Layer 3: trees in memory. Own work.
-/
import Derived.Test.YtpbkidmdfibaoaaGreatDoorTr3
namespace Go.Proofs.YtpbkidmdfibaoaaGreatDoor
set_option linter.unusedVariables false
set_option linter.unusedSimpArgs false
open Go.RowKit

/-- the cells of an element or text -/
def ndL (x : Tr) (va vk : Value) : List Value := [.string (str x.n), va, vk, .string (str x.t)]
/-- the attributes va and the kids vk are this tree's; all that is read lies in blocks of F -/
inductive NdV (w : World) (F : Nat → Prop) : Tr → Value → Value → Prop where
  | leaf {n ats t va} (ha : RdAs w va ats) (hb : ats ≠ [] → ∀ q, va.ownBlock = some q → F q) : NdV w F (.mk n ats [] t) va (.slice none 0 0)
  | kids {n ats ks t va} {a : Addr} {cap : Nat} (ka kk : Nat → Value) (ha : RdAs w va ats) (hb : ats ≠ [] → ∀ q, va.ownBlock = some q → F q) (hF : ks ≠ [] → F a.block) (hc : ks.length ≤ cap) (hm : cap ≤ 9223372036854775807)
      (hcell : ∀ (i : Nat) x c u, ks[i]? = some x → (ndL x (ka i) (kk i))[c]? = some u → w.cell? (a.add (i * 4 + c)) = some u)
      (hk : ∀ (i : Nat) x, ks[i]? = some x → NdV w F x (ka i) (kk i)) : NdV w F (.mk n ats ks t) va (.slice (some a) ks.length cap)
theorem add_blk (a : Addr) (c : Nat) : (a.add c).block = a.block := by unfold Addr.add; split <;> rfl
theorem RdAs.frame {w w' : World} {v : Value} {l : List At2} (h : RdAs w v l) (hb : l ≠ [] → ∀ q, v.ownBlock = some q → w'.heap[q]? = w.heap[q]?) : RdAs w' v l := by
  rcases h with h | ⟨a, cap, h1, h2, h3, h5⟩
  · exact .inl h
  · refine .inr ⟨a, cap, h1, h2, h3, fun i x hx => ?_⟩
    have hq := hb (fun h0 => by rw [h0] at hx; cases hx) a.block (by rw [h1]; rfl)
    obtain ⟨g1, g2⟩ := h5 i x hx
    refine ⟨(World.cell?_of_block (a := a.add (i * 2)) (by rw [add_blk]; exact hq)).trans g1, (World.cell?_of_block (by show w'.heap[(a.add (i * 2)).block]? = w.heap[(a.add (i * 2)).block]?; rw [add_blk]; exact hq)).trans g2⟩
theorem NdV.frame {w w' : World} {F F' : Nat → Prop} {x : Tr} {va vk : Value} (h : NdV w F x va vk) (hb : ∀ b, F b → w'.heap[b]? = w.heap[b]?) (hF : ∀ b, F b → F' b) : NdV w' F' x va vk := by
  induction h with
  | leaf ha hq => exact .leaf (ha.frame fun hn q hv => hb q (hq hn q hv)) fun hn q hv => hF q (hq hn q hv)
  | kids ka kk ha hq hf hc hm hcell hk ih =>
    exact .kids ka kk (ha.frame fun hn q hv => hb q (hq hn q hv)) (fun hn q hv => hF q (hq hn q hv)) (fun hn => hF _ (hf hn)) hc hm
      (fun i x c u hx hu => (World.cell?_of_block (by rw [add_blk]; exact hb _ (hf fun h0 => by rw [h0] at hx; cases hx))).trans (hcell i x c u hx hu)) ih
theorem NdV.ats {w : World} {F : Nat → Prop} {x : Tr} {va vk : Value} (h : NdV w F x va vk) : RdAs w va x.ats := by
  cases h with
  | leaf ha _ => exact ha
  | kids _ _ ha _ _ _ _ _ _ => exact ha
/-- an element in memory, all of it -/
def NdAt (w : World) (F : Nat → Prop) (a : Addr) (x : Tr) : Prop :=
  ∃ va vk, (w.cell? a = some (.string (str x.n)) ∧ w.cell? ⟨a.block, a.off + 1, none⟩ = some va ∧ w.cell? ⟨a.block, a.off + 2, none⟩ = some vk ∧ w.cell? ⟨a.block, a.off + 3, none⟩ = some (.string (str x.t))) ∧ NdV w F x va vk
theorem add_pos3 (a : Addr) (c : Nat) (h : 0 < c) : a.add c = ⟨a.block, a.off + c, none⟩ := by unfold Addr.add; rw [if_neg (by omega)]
theorem NdV.rd {w : World} {F : Nat → Prop} {x : Tr} {va vk : Value} (h : NdV w F x va vk) : RdSl 4 (NdAt w F) vk x.ks := by
  cases h with
  | leaf _ _ => exact .inl ⟨rfl, rfl⟩
  | @kids n ats ks t va a cap ka kk ha hq hf hc hm hcell hk =>
    refine .inr ⟨a, cap, rfl, hc, hm, fun i y hy => ⟨ka i, kk i, ?_, hk i y hy⟩⟩
    have one : ∀ c u, 0 < c → (ndL y (ka i) (kk i))[c]? = some u → w.cell? ⟨(a.add (i * 4)).block, (a.add (i * 4)).off + c, none⟩ = some u := fun c u h0 hu => by
      have := hcell i y c u hy hu
      rw [← Go.Deep.add_add, add_pos3 _ _ h0] at this
      exact this
    exact ⟨hcell i y 0 _ hy rfl, one 1 _ (by decide) rfl, one 2 _ (by decide) rfl, one 3 _ (by decide) rfl⟩
/-- every block that there is -/
def allF (w : World) : Nat → Prop := fun b => b < w.heap.size
theorem NdV.onto {w w' : World} {x : Tr} {va vk : Value} {B : Nat} (h : NdV w (allF w) x va vk) (hb : Below B w w') (hB : w.heap.size ≤ B) : NdV w' (allF w') x va vk :=
  h.frame (fun b hl => hb.block b (Nat.lt_of_lt_of_le hl hB)) fun b hl => Nat.lt_of_lt_of_le hl hb.size
theorem NdAt.below {w w' : World} {x : Tr} {a : Addr} {B : Nat} (h : NdAt w (allF w) a x) (hb : Below B w w') (hB : w.heap.size ≤ B) : NdAt w' (allF w') a x := by
  obtain ⟨va, vk, ⟨h0, h1, h2, h3⟩, hr⟩ := h
  have hc : ∀ {A : Addr} {x : Value}, w.cell? A = some x → w'.cell? A = some x := fun hx => (hb.cell (Nat.lt_of_lt_of_le (World.block_lt_of_cell? w _ hx) hB)).trans hx
  exact ⟨va, vk, ⟨hc h0, hc h1, hc h2, hc h3⟩, hr.onto hb hB⟩
theorem RdAs.block {w : World} {v : Value} {l : List At2} (h : RdAs w v l) (hl : l ≠ []) : ∀ q, v.ownBlock = some q → q < w.heap.size := by
  intro q hq
  rcases h with ⟨rfl, _⟩ | ⟨a, cap, rfl, h2, h3, h5⟩
  · cases hq
  · cases hq
    obtain ⟨x, hx⟩ : ∃ x, l[0]? = some x := ⟨_, List.getElem?_eq_getElem (List.length_pos_iff.2 hl)⟩
    have := World.block_lt_of_cell? w _ (h5 0 x hx).1
    rw [add_blk] at this
    exact this
/-! rows of elements of one's own -/
structure Kd where
  x : Tr
  va : Value
  vk : Value
instance : Inhabited Kd := ⟨⟨Tr.nil, .slice none 0 0, .slice none 0 0⟩⟩
def kdL (k : Kd) : List Value := ndL k.x k.va k.vk
def rowN (l : List Kd) : List Value := l.flatMap kdL
theorem rowN_snoc (l : List Kd) (p : Kd) : rowN (l ++ [p]) = rowN l ++ kdL p := by simp [rowN]
theorem rowN_len : ∀ l : List Kd, (rowN l).length = l.length * 4
  | [] => rfl
  | e :: l => by
    have := rowN_len l
    simp only [rowN, List.flatMap_cons, List.length_append, List.length_cons, kdL, ndL, List.length_nil] at this ⊢
    omega
theorem rowN_at : ∀ (l : List Kd) (i c : Nat) (p : Kd), l[i]? = some p → c < 4 → (rowN l)[i * 4 + c]? = (kdL p)[c]?
  | [], i, c, p, h, _ => by simp at h
  | q :: l, 0, c, p, h, hc => by
    simp only [List.getElem?_cons_zero, Option.some.injEq] at h
    subst h
    simp only [rowN, List.flatMap_cons]
    rw [List.getElem?_append_left (by simp [kdL, ndL]; omega)]
    simp
  | q :: l, i + 1, c, p, h, hc => by
    have := rowN_at l i c p (by simpa using h) hc
    simp only [rowN, List.flatMap_cons] at this ⊢
    rw [List.getElem?_append_right (by simp [kdL, ndL]; omega), ← this]
    congr 1
    simp [kdL, ndL]; omega
/-- a row of one's own is a tree's kids -/
theorem NdV.of_own {w : World} {F : Nat → Prop} {n t : List UInt8} {ats : List At2} {va vk : Value} {l : List Kd} {base e : Nat} (h : w.ownsRow base e 4 vk l.length (rowN l)) (ha : RdAs w va ats) (hq : ats ≠ [] → ∀ q, va.ownBlock = some q → F q)
    (hk : ∀ k ∈ l, NdV w F k.x k.va k.vk) (hF : ∀ q, vk.ownBlock = some q → F q) : NdV w F (.mk n ats (l.map (·.x)) t) va vk := by
  have h0 := h
  obtain ⟨_, hc⟩ := h
  rcases hc with ⟨rfl, hn⟩ | ⟨g, cap, cur, rfl, _, hg, hn, hcm, _, _⟩
  · rw [List.eq_nil_of_length_eq_zero hn]; exact .leaf ha hq
  · have hget : ∀ (i : Nat) x, (l.map (·.x))[i]? = some x → ∃ k, l[i]? = some k ∧ k.x = x := fun i x hx => by
      rw [List.getElem?_map] at hx
      cases hc : l[i]? with
      | none => rw [hc] at hx; cases hx
      | some q => rw [hc] at hx; cases hx; exact ⟨q, rfl, rfl⟩
    have := NdV.kids (w := w) (F := F) (n := n) (t := t) (ks := l.map (·.x)) (a := ⟨g, 0, none⟩) (cap := cap) (fun i => (l[i]?.getD default).va) (fun i => (l[i]?.getD default).vk) ha hq (fun _ => hF g rfl) (by rw [List.length_map]; exact hn) (by unfold maxLen at hcm; exact hcm)
      (fun i x c u hx hu => by
        obtain ⟨k, hk, rfl⟩ := hget i x hx
        simp only [hk, Option.getD_some] at hu
        have hc4 : c < 4 := by have := (List.getElem?_eq_some_iff.1 hu).1; simpa [ndL] using this
        exact h0.cells (g := g) rfl _ _ ((rowN_at l i c k hk hc4).trans hu))
      (fun i x hx => by
        obtain ⟨k, hi, rfl⟩ := hget i x hx
        simp only [hi, Option.getD_some]
        exact hk k (List.mem_of_getElem? hi))
    rw [List.length_map] at this
    exact this
theorem node_info : (Tryz.prog.info? 26).map (fun i => (i.zero, i.size, i.bytes)) = some (some (.agg #[.string .empty, .slice none 0 0, .slice none 0 0, .string .empty]), 4, 80) := by kernel_rfl
end Go.Proofs.YtpbkidmdfibaoaaGreatDoor
