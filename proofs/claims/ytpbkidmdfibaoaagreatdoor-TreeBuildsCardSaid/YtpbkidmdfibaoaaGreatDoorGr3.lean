/-
  Layer 3: the grower in memory: its open elements, their kids, the root. Own work.
-/
import Derived.Test.YtpbkidmdfibaoaaGreatDoorMem3
namespace Go.Proofs.YtpbkidmdfibaoaaGreatDoor
set_option linter.unusedVariables false
set_option linter.unusedSimpArgs false
open Go.RowKit

variable {Od : Nat → Prop}

/-- all that there was is as it was, but for the blocks X -/
structure Mvd (X : List Nat) (w w' : World) : Prop where
  os : w'.os = w.os
  tape : w'.tape = w.tape
  output : w'.output = w.output
  size : w.heap.size ≤ w'.heap.size
  block : ∀ k, k < w.heap.size → k ∉ X → w'.heap[k]? = w.heap[k]?
theorem Mvd.refl (X : List Nat) (w : World) : Mvd X w w := ⟨rfl, rfl, rfl, Nat.le_refl _, fun _ _ _ => rfl⟩
theorem Mvd.trans {X : List Nat} {a b c : World} (h : Mvd X a b) (k : Mvd X b c) : Mvd X a c :=
  ⟨k.os.trans h.os, k.tape.trans h.tape, k.output.trans h.output, Nat.le_trans h.size k.size, fun i hi hx => (k.block i (Nat.lt_of_lt_of_le hi h.size) hx).trans (h.block i hi hx)⟩
theorem Mvd.mono {X Y : List Nat} {a b : World} (h : Mvd X a b) (hs : ∀ k ∈ X, k ∈ Y) : Mvd Y a b := ⟨h.os, h.tape, h.output, h.size, fun k hk hn => h.block k hk fun hx => hn (hs k hx)⟩
/-- blocks that are made in between may turn, too -/
theorem Mvd.trans' {X Y : List Nat} {a b c : World} (h : Mvd X a b) (k : Mvd Y b c) (hy : ∀ k ∈ Y, k < a.heap.size → k ∈ X) : Mvd X a c :=
  ⟨k.os.trans h.os, k.tape.trans h.tape, k.output.trans h.output, Nat.le_trans h.size k.size, fun i hi hx => (k.block i (Nat.lt_of_lt_of_le hi h.size) (fun hiy => hx (hy i hiy hi))).trans (h.block i hi hx)⟩
theorem Mvd.of_grown {w w' : World} {r : Option Nat} (h : w.grownBy w' r) : Mvd r.toList w w' := ⟨h.os, h.tape, h.output, h.size, fun k hk hn => h.block k hk fun he => hn (by rw [← he]; simp)⟩
theorem Mvd.of_below {w w' : World} {X : List Nat} (h : Below w.heap.size w w') : Mvd X w w' := ⟨h.os, h.tape, h.output, h.size, fun k hk _ => h.block k hk⟩
theorem Mvd.of_set (w : World) (b j : Nat) (u : Value) : Mvd [b] w (w.setCell ⟨b, j, none⟩ u) := ⟨rfl, rfl, rfl, by simp, fun k _ hn => heap_setCell_other w ⟨b, j, none⟩ k u (fun e => hn (by simp [e]))⟩
theorem Mvd.below {w w' : World} {X : List Nat} {s : Nat} (h : Mvd X w w') (hs : s ≤ w.heap.size) (hx : ∀ k ∈ X, s ≤ k) : Below s w w' :=
  ⟨h.os, h.tape, h.output, h.size, fun k hk => h.block k (by omega) fun hn => by have := hx k hn; omega⟩
theorem own_mvd {w w' : World} {X : List Nat} {base e size n : Nat} {v : Value} {xs : List Value} (h : w.ownsRow base e size v n xs) (hm : Mvd X w w') (hx : ∀ q, v.ownBlock = some q → q ∉ X) : w'.ownsRow base e size v n xs := by
  refine ⟨h.1, ?_⟩
  rcases h.2 with hn | ⟨g, cap, cur, rfl, hb, hgg, rest⟩
  · exact .inl hn
  · refine .inr ⟨g, cap, cur, rfl, hb, ?_, rest⟩
    rw [hm.block g (Array.getElem?_eq_some_iff.1 hgg).1 (hx g rfl)]
    exact hgg
/-- an open element -/
structure Fr where
  N : Nat
  n : List UInt8
  ats : List At2
  va : Value
  vk : Value
  kd : List Kd
def Fr.tr (f : Fr) : Tr := .mk f.n f.ats (f.kd.map (·.x)) []
def Fr.mut (f : Fr) : List Nat := f.N :: f.vk.ownBlock.toList
def Fr.ptr (f : Fr) : Value := .pointer (some ⟨f.N, 0, none⟩)
structure FrOk (w : World) (s0 : Nat) (F : Nat → Prop) (f : Fr) : Prop where
  node : w.heap[f.N]? = some (.cells #[.string (str f.n), f.va, f.vk, .string ⟨#[]⟩] 26 (0, 0))
  low : s0 ≤ f.N
  ra : RdAs w f.va f.ats
  atF : f.ats ≠ [] → ∀ q, f.va.ownBlock = some q → F q
  row : w.ownsRow s0 26 4 f.vk f.kd.length (rowN f.kd)
  kid : ∀ k ∈ f.kd, NdV w F k.x k.va k.vk
theorem FrOk.kept {w w' : World} {s0 : Nat} {F F' : Nat → Prop} {f : Fr} {X : List Nat} (h : FrOk w s0 F f) (hm : Mvd X w w') (hX : ∀ b ∈ f.mut, b ∉ X) (hF : ∀ b, F b → b < w.heap.size ∧ b ∉ X) (hF' : ∀ b, F b → F' b) : FrOk w' s0 F' f := by
  have hb : ∀ b, F b → w'.heap[b]? = w.heap[b]? := fun b hb => hm.block b (hF b hb).1 (hF b hb).2
  refine ⟨(hm.block f.N (Array.getElem?_eq_some_iff.1 h.node).1 (hX _ (by simp [Fr.mut]))).trans h.node, h.low, h.ra.frame fun hn q hq => hb q (h.atF hn q hq), fun hn q hq => hF' q (h.atF hn q hq), own_mvd h.row hm fun q hq => hX q (by simp [Fr.mut, hq]), fun k hk => (h.kid k hk).frame hb hF'⟩
theorem FrOk.lt {w : World} {s0 : Nat} {F : Nat → Prop} {f : Fr} (h : FrOk w s0 F f) : ∀ b ∈ f.mut, s0 ≤ b ∧ b < w.heap.size := by
  intro b hb
  simp only [Fr.mut, List.mem_cons, Option.mem_toList] at hb
  rcases hb with rfl | hb
  · exact ⟨h.low, (Array.getElem?_eq_some_iff.1 h.node).1⟩
  · exact h.row.lt b hb
/-- the row of the open elements: one's own, or cut so that there is no room behind it -/
def OpR (w : World) (s0 : Nat) (v : Value) (xs : List Value) : Prop :=
  w.ownsRow s0 47 1 v xs.length xs ∨ (∃ g cur, v = .slice (some ⟨g, 0, none⟩) xs.length xs.length ∧ s0 ≤ g ∧ w.heap[g]? = some (.cells cur 47 (0, 0)) ∧ cur.toList.take xs.length = xs ∧ xs.length ≤ 100000)
theorem OpR.shape {w : World} {s0 : Nat} {v : Value} {xs : List Value} (h : OpR w s0 v xs) : ∃ a c, v = .slice a xs.length c := by
  rcases h with h | ⟨g, cur, rfl, _⟩
  · rcases h.2 with ⟨rfl, h0⟩ | ⟨g, cap, cur, rfl, _⟩
    · rw [h0]; exact ⟨_, _, rfl⟩
    · exact ⟨_, _, rfl⟩
  · exact ⟨_, _, rfl⟩
theorem OpR.lt {w : World} {s0 : Nat} {v : Value} {xs : List Value} (h : OpR w s0 v xs) : ∀ q, v.ownBlock = some q → s0 ≤ q ∧ q < w.heap.size := by
  intro q hq
  rcases h with h | ⟨g, cur, rfl, hs, hg, _⟩
  · exact h.lt q hq
  · cases hq; exact ⟨hs, (Array.getElem?_eq_some_iff.1 hg).1⟩
theorem OpR.kept {w w' : World} {s0 : Nat} {v : Value} {xs : List Value} {X : List Nat} (h : OpR w s0 v xs) (hm : Mvd X w w') (hx : ∀ q, v.ownBlock = some q → q ∉ X) : OpR w' s0 v xs := by
  rcases h with h | ⟨g, cur, rfl, hs, hg, ht⟩
  · exact .inl (own_mvd h hm hx)
  · exact .inr ⟨g, cur, rfl, hs, (hm.block g (Array.getElem?_eq_some_iff.1 hg).1 (hx g rfl)).trans hg, ht⟩
theorem OpR.cell {w : World} {s0 : Nat} {a : Option Addr} {n c : Nat} {xs : List Value} (h : OpR w s0 (.slice a n c) xs) {i : Nat} {u : Value} (hu : xs[i]? = some u) : ∃ g, a = some ⟨g, 0, none⟩ ∧ n = xs.length ∧ n ≤ c ∧ w.cell? ⟨g, i, none⟩ = some u := by
  have hadd : ∀ g : Nat, (⟨g, 0, none⟩ : Addr).add i = ⟨g, i, none⟩ := fun g => by unfold Addr.add; split <;> simp_all
  rcases h with h | ⟨g, cur, he, hs, hg, ht, _⟩
  · rcases h.2 with ⟨he, h0⟩ | ⟨g, cap, cur, he, _, _, hn, _⟩
    · have : xs = [] := List.eq_nil_of_length_eq_zero h0
      subst this; simp at hu
    · cases he
      have h1 := h.cells (g := g) rfl i u hu
      rw [hadd] at h1
      exact ⟨g, rfl, rfl, hn, h1⟩
  · cases he
    refine ⟨g, rfl, rfl, Nat.le_refl _, ?_⟩
    rw [cell_of_row w g i cur _ (0, 0) hg]
    rw [← ht, List.getElem?_take] at hu
    split at hu
    · simpa using hu
    · cases hu
/-- cut by its last one -/
theorem OpR.cut {w : World} {s0 : Nat} {g c : Nat} {xs : List Value} {u : Value} {n : Nat} (h : OpR w s0 (.slice (some ⟨g, 0, none⟩) n c) (xs ++ [u])) (hn : xs.length ≤ 100000) : OpR w s0 (.slice (some ⟨g, 0, none⟩) xs.length xs.length) xs := by
  rcases h with h | ⟨g', cur, he, hs, hg, ht, _⟩
  · rcases h.2 with ⟨he, h0⟩ | ⟨g', cap, cur, he, hs, hg, _, _, _, ht⟩
    · cases he
    · cases he
      refine .inr ⟨g, cur, rfl, hs, hg, ?_, hn⟩
      have := congrArg (List.take xs.length) ht
      rw [List.take_take, List.length_append, List.length_singleton, Nat.min_eq_left (by omega), List.take_left] at this
      exact this
  · cases he
    refine .inr ⟨g, cur, rfl, hs, hg, ?_, hn⟩
    have := congrArg (List.take xs.length) ht
    rw [List.take_take, List.length_append, List.length_singleton, Nat.min_eq_left (by omega), List.take_left] at this
    exact this
/-- blocks that only the grower turns -/
def mutL (G : Nat) (vo : Value) (fs : List Fr) : List Nat := G :: (vo.ownBlock.toList ++ fs.flatMap Fr.mut)
/-- the root, where there is one -/
def RtOk (w : World) (F : Nat → Prop) (r : Option Tr) (vr : Value) : Prop :=
  match r with
  | none => vr = .pointer none
  | some t => ∃ R va vk, vr = .pointer (some ⟨R, 0, none⟩) ∧ F R ∧ w.heap[R]? = some (.cells #[.string (str t.n), va, vk, .string (str t.t)] 26 (0, 0)) ∧ NdV w F t va vk
/-- the grower stands in block G: what is open, and the root; w0: the world behind the tokens -/
structure GR (w0 : World) (Od : Nat → Prop) (G : Nat) (g : Gs) (fs : List Fr) (vo vr : Value) (F : Nat → Prop) (w : World) : Prop where
  b : Below w0.heap.size w0 w
  obj : w.heap[G]? = some (.cells #[vo, vr, .int .i64 (g.c : Int)] 49 (0, 0))
  gl : w0.heap.size ≤ G
  fl : ∀ b, F b → b < w.heap.size
  old : ∀ b, Od b → F b
  nab : ∀ b, F b → b < w0.heap.size → Od b
  st : fs.map Fr.tr = g.st
  ok : ∀ f ∈ fs, FrOk w w0.heap.size F f
  op : OpR w w0.heap.size vo (fs.reverse.map Fr.ptr)
  rt : RtOk w F g.root vr
  one : g.root.isSome → fs = []
  nod : (mutL G vo fs).Nodup
  nf : ∀ b ∈ mutL G vo fs, ¬ F b
  cl : g.c ≤ 4096
  dl : fs.length ≤ 64
  tot : Tr.sizes g.st ≤ g.c
theorem GR.kids {w0 w : World} {G : Nat} {g : Gs} {fs : List Fr} {vo vr : Value} {F : Nat → Prop} (h : GR w0 Od G g fs vo vr F w) {f : Fr} (hf : f ∈ fs) : f.kd.length ≤ 4096 := by
  have h1 := h.tot
  have h2 := h.cl
  have h3 : f.tr.size ≤ Tr.sizes g.st := Tr.size_mem (by rw [← h.st]; exact List.mem_map_of_mem hf)
  have h4 := Tr.len_sizes (f.kd.map (·.x))
  rw [List.length_map] at h4
  simp only [Fr.tr, Tr.size] at h3
  omega
theorem GR.lt {w0 w : World} {G : Nat} {g : Gs} {fs : List Fr} {vo vr : Value} {F : Nat → Prop} (h : GR w0 Od G g fs vo vr F w) : ∀ b ∈ mutL G vo fs, w0.heap.size ≤ b ∧ b < w.heap.size := by
  intro b hb
  simp only [mutL, List.mem_cons, List.mem_append, Option.mem_toList, List.mem_flatMap] at hb
  rcases hb with rfl | hb | ⟨f, hf, hb⟩
  · exact ⟨h.gl, (Array.getElem?_eq_some_iff.1 h.obj).1⟩
  · exact h.op.lt b hb
  · exact (h.ok f hf).lt b hb
theorem rt_kept {w w' : World} {F F' : Nat → Prop} {r : Option Tr} {vr : Value} (h : RtOk w F r vr) (hb : ∀ b, F b → w'.heap[b]? = w.heap[b]?) (hF : ∀ b, F b → F' b) : RtOk w' F' r vr := by
  cases r with
  | none => exact h
  | some t =>
    obtain ⟨R, va, vk, h1, h2, h3, h4⟩ := h
    exact ⟨R, va, vk, h1, hF R h2, (hb R h2).trans h3, h4.frame hb hF⟩
/-- nothing but what is new was made -/
theorem GR.below {w0 w w' : World} {G : Nat} {g : Gs} {fs : List Fr} {vo vr : Value} {F : Nat → Prop} (h : GR w0 Od G g fs vo vr F w) (hb : Below w.heap.size w w') : GR w0 Od G g fs vo vr F w' := by
  have hm : Mvd [] w w' := Mvd.of_below hb
  have hF : ∀ b, F b → w'.heap[b]? = w.heap[b]? := fun b h1 => hb.block b (h.fl b h1)
  exact ⟨h.b.trans (hb.mono h.b.size), (hb.block G (Array.getElem?_eq_some_iff.1 h.obj).1).trans h.obj, h.gl, fun b h1 => Nat.lt_of_lt_of_le (h.fl b h1) hb.size, h.old, h.nab, h.st, fun f hf => (h.ok f hf).kept hm (by simp) (fun b h1 => ⟨h.fl b h1, by simp⟩) (fun _ h => h),
    h.op.kept hm (by simp), rt_kept h.rt hF (fun _ h => h), h.one, h.nod, h.nf, h.cl, h.dl, h.tot⟩
/-- an element begins: its block N, the row of the open ones vo' -/
theorem GR.push {w0 w w' : World} {G N : Nat} {g : Gs} {fs : List Fr} {vo vo' vr : Value} {F : Nat → Prop} {n : List UInt8} {ats : List At2} {va : Value} (h : GR w0 Od G g fs vo vr F w) (hr : g.root = none) (htot : Tr.sizes g.st + 1 ≤ g.c) (hd : fs.length + 1 ≤ 64)
    (hm : Mvd (G :: vo.ownBlock.toList) w w') (hN : w.heap.size ≤ N) (hnode : w'.heap[N]? = some (.cells #[.string (str n), va, .slice none 0 0, .string ⟨#[]⟩] 26 (0, 0)))
    (hva : RdAs w0 va ats) (hvq : ats ≠ [] → ∀ q, va.ownBlock = some q → Od q)
    (hobj : w'.heap[G]? = some (.cells #[vo', vr, .int .i64 (g.c : Int)] 49 (0, 0)))
    (hop : OpR w' w0.heap.size vo' (fs.reverse.map Fr.ptr ++ [.pointer (some ⟨N, 0, none⟩)])) (hvo : ∀ q, vo'.ownBlock = some q → q ≠ N ∧ (vo.ownBlock = some q ∨ w.heap.size ≤ q)) :
    GR w0 Od G ⟨.mk n ats [] [] :: g.st, g.root, g.c⟩ (⟨N, n, ats, va, .slice none 0 0, []⟩ :: fs) vo' vr F w' := by
  have hX : ∀ k ∈ G :: vo.ownBlock.toList, k ∈ mutL G vo fs := fun k hk => by
    simp only [mutL, List.mem_cons, List.mem_append] at hk ⊢
    rcases hk with hk | hk
    · exact .inl hk
    · exact .inr (.inl hk)
  have hlt := h.lt
  have hF : ∀ b, F b → b < w.heap.size ∧ b ∉ G :: vo.ownBlock.toList := fun b hb => ⟨h.fl b hb, fun hx => h.nf b (hX b hx) hb⟩
  have hFb : ∀ b, F b → w'.heap[b]? = w.heap[b]? := fun b hb => hm.block b (hF b hb).1 (hF b hb).2
  have hnod := h.nod
  simp only [mutL, List.nodup_cons, List.mem_append, List.nodup_append, not_or] at hnod
  have hfs : ∀ f ∈ fs, ∀ b ∈ f.mut, b ∉ G :: vo.ownBlock.toList := fun f hf b hb hx => by
    have hbm : b ∈ fs.flatMap Fr.mut := List.mem_flatMap.2 ⟨f, hf, hb⟩
    rcases List.mem_cons.1 hx with rfl | hx
    · exact hnod.1.2 hbm
    · exact hnod.2.2.2 b hx b hbm rfl
  have hin : ∀ b ∈ fs.flatMap Fr.mut, b < w.heap.size := fun b hb => (hlt b (by simp only [mutL, List.mem_cons, List.mem_append]; exact .inr (.inr hb))).2
  have hGs := (hlt G (by simp [mutL])).2
  have hval : RdAs w' va ats := hva.below (h.b.trans (hm.below h.b.size fun k hk => (hlt k (hX k hk)).1)) (Nat.le_refl _)
  refine ⟨h.b.trans (hm.below h.b.size fun k hk => (hlt k (hX k hk)).1), hobj, h.gl, fun b hb => Nat.lt_of_lt_of_le (h.fl b hb) hm.size, h.old, h.nab, ?_, ?_, ?_, rt_kept h.rt hFb (fun _ h => h), ?_, ?_, ?_, h.cl, by simpa using hd, by simp only [Tr.sizes, Tr.size]; omega⟩
  · simp [Fr.tr, h.st]
  · intro f hf
    rcases List.mem_cons.1 hf with rfl | hf
    · exact ⟨hnode, Nat.le_trans h.b.size hN, hval, fun hn q hq => h.old q (hvq hn q hq), World.ownsRow_nil _ _ _ _, by simp⟩
    · exact (h.ok f hf).kept hm (hfs f hf) hF (fun _ h => h)
  · rw [List.reverse_cons, List.map_append]; exact hop
  · rw [hr]; simp
  · have hmN : Fr.mut ⟨N, n, ats, va, .slice none 0 0, []⟩ = [N] := rfl
    simp only [mutL, List.flatMap_cons, hmN, List.singleton_append, List.nodup_cons, List.mem_append, List.nodup_append, List.mem_cons, not_or]
    refine ⟨⟨fun hq => ?_, by omega, hnod.1.2⟩, by cases vo'.ownBlock <;> simp, ⟨fun hq => by have := hin _ hq; omega, hnod.2.2.1⟩, fun a ha b hb => ?_⟩
    · rcases (hvo G (by simpa using hq)).2 with h1 | h1
      · exact hnod.1.1 (by simp [h1])
      · omega
    · obtain ⟨h1, h2⟩ := hvo a (by simpa using ha)
      rcases hb with rfl | hb
      · exact h1
      · rcases h2 with h2 | h2
        · exact hnod.2.2.2 a (by simp [h2]) b hb
        · have := hin _ hb; omega
  · intro b hb hFb'
    have hbs := h.fl b hFb'
    have hmN : Fr.mut ⟨N, n, ats, va, .slice none 0 0, []⟩ = [N] := rfl
    simp only [mutL, List.flatMap_cons, hmN, List.singleton_append, List.mem_cons, List.mem_append] at hb
    rcases hb with rfl | hb | rfl | hb
    · exact h.nf b (by simp [mutL]) hFb'
    · rcases (hvo b (by simpa using hb)).2 with h1 | h1
      · exact h.nf b (by simp [mutL, h1]) hFb'
      · omega
    · omega
    · exact h.nf b (by simp only [mutL, List.mem_cons, List.mem_append]; exact .inr (.inr hb)) hFb'
/-- the innermost element's kids turn: v' is their row now -/
theorem GR.turn {w0 w w' : World} {G : Nat} {g : Gs} {f : Fr} {fs : List Fr} {vo vr : Value} {F : Nat → Prop} {vk' : Value} {kd' : List Kd} {c' : Nat} (h : GR w0 Od G g (f :: fs) vo vr F w) (hc : c' ≤ 4096) (htot : 1 + Tr.sizes (kd'.map (·.x)) + Tr.sizes (fs.map Fr.tr) ≤ c')
    (hm : Mvd (G :: f.mut) w w') (hobj : w'.heap[G]? = some (.cells #[vo, vr, .int .i64 (c' : Int)] 49 (0, 0)))
    (hnode : w'.heap[f.N]? = some (.cells #[.string (str f.n), f.va, vk', .string ⟨#[]⟩] 26 (0, 0)))
    (hrow : w'.ownsRow w0.heap.size 26 4 vk' kd'.length (rowN kd')) (hvk : ∀ q, vk'.ownBlock = some q → q ≠ f.N ∧ (f.vk.ownBlock = some q ∨ w.heap.size ≤ q)) (hkd : ∀ k ∈ kd', NdV w F k.x k.va k.vk) :
    GR w0 Od G ⟨.mk f.n f.ats (kd'.map (·.x)) [] :: fs.map Fr.tr, g.root, c'⟩ ({ f with vk := vk', kd := kd' } :: fs) vo vr F w' := by
  have hX : ∀ k ∈ G :: f.mut, k ∈ mutL G vo (f :: fs) := fun k hk => by
    simp only [mutL, List.mem_cons, List.mem_append, List.flatMap_cons] at hk ⊢
    rcases hk with hk | hk
    · exact .inl hk
    · exact .inr (.inr (.inl hk))
  have hlt := h.lt
  have hF : ∀ b, F b → b < w.heap.size ∧ b ∉ G :: f.mut := fun b hb => ⟨h.fl b hb, fun hx => h.nf b (hX b hx) hb⟩
  have hFb : ∀ b, F b → w'.heap[b]? = w.heap[b]? := fun b hb => hm.block b (hF b hb).1 (hF b hb).2
  have hnod := h.nod
  simp only [mutL, List.nodup_cons, List.mem_append, List.nodup_append, not_or, List.flatMap_cons] at hnod
  obtain ⟨⟨hG1, hG2, hG3⟩, hvn, ⟨hfn, hfsn, hff⟩, hvf⟩ := hnod
  have hfs : ∀ x ∈ fs, ∀ b ∈ x.mut, b ∉ G :: f.mut := fun x hx b hb hbx => by
    have hbm : b ∈ fs.flatMap Fr.mut := List.mem_flatMap.2 ⟨x, hx, hb⟩
    rcases List.mem_cons.1 hbx with rfl | hbx
    · exact hG3 hbm
    · exact hff b hbx b hbm rfl
  have hin : ∀ b ∈ fs.flatMap Fr.mut, b < w.heap.size := fun b hb => (hlt b (by simp only [mutL, List.mem_cons, List.mem_append, List.flatMap_cons]; exact .inr (.inr (.inr hb)))).2
  have hfN := (hlt f.N (hX _ (by simp [Fr.mut]))).2
  have hGs := (hlt G (by simp [mutL])).2
  have hvo : ∀ q, vo.ownBlock = some q → q < w.heap.size := fun q hq => (hlt q (by simp [mutL, hq])).2
  have hb' : Below w0.heap.size w w' := hm.below h.b.size fun k hk => (hlt k (hX k hk)).1
  have hfk := h.ok f (by simp)
  have hnew : ∀ b ∈ Fr.mut { f with vk := vk', kd := kd' }, b ∈ f.mut ∨ w.heap.size ≤ b := fun b hb => by
    simp only [Fr.mut, List.mem_cons, Option.mem_toList] at hb ⊢
    rcases hb with rfl | hb
    · exact .inl (.inl rfl)
    · rcases (hvk b hb).2 with h1 | h1
      · exact .inl (.inr h1)
      · exact .inr h1
  refine ⟨h.b.trans hb', hobj, h.gl, fun b hb => Nat.lt_of_lt_of_le (h.fl b hb) hm.size, h.old, h.nab, ?_, ?_, ?_, rt_kept h.rt hFb (fun _ h => h), ?_, ?_, ?_, hc, by simpa using h.dl, htot⟩
  · rfl
  · intro x hx
    rcases List.mem_cons.1 hx with rfl | hx
    · exact ⟨hnode, hfk.low, hfk.ra.frame fun hn q hq => hFb q (hfk.atF hn q hq), hfk.atF, hrow, fun k hk => (hkd k hk).frame hFb (fun _ h => h)⟩
    · exact (h.ok x (List.mem_cons_of_mem _ hx)).kept hm (hfs x hx) hF (fun _ h => h)
  · have := h.op.kept hm (fun q hq => by
      intro hx
      rcases List.mem_cons.1 hx with rfl | hx
      · exact hG1 (by simp [hq])
      · exact hvf q (by simp [hq]) q (.inl hx) rfl)
    rw [List.reverse_cons, List.map_append] at this ⊢
    exact this
  · intro hs; exact absurd (h.one hs) (by simp)
  · simp only [mutL, List.nodup_cons, List.mem_append, List.nodup_append, not_or, List.flatMap_cons]
    refine ⟨⟨hG1, fun hx => ?_, hG3⟩, hvn, ⟨?_, hfsn, fun a ha b hb => ?_⟩, fun a ha b hb => ?_⟩
    · rcases hnew G hx with h1 | h1
      · exact hG2 h1
      · omega
    · simp only [Fr.mut, List.nodup_cons, Option.mem_toList]
      exact ⟨fun hq => (hvk _ hq).1 rfl, by cases vk'.ownBlock <;> simp⟩
    · rcases hnew a ha with h1 | h1
      · exact hff a h1 b hb
      · have := hin b hb; omega
    · rcases hb with hb | hb
      · rcases hnew b hb with h1 | h1
        · exact hvf a ha b (.inl h1)
        · have := hvo a (by simpa using ha); omega
      · exact hvf a ha b (.inr hb)
  · intro b hb hFb'
    have hbs := h.fl b hFb'
    simp only [mutL, List.mem_cons, List.mem_append, List.flatMap_cons] at hb
    rcases hb with rfl | hb | hb | hb
    · exact h.nf b (by simp [mutL]) hFb'
    · exact h.nf b (by simp only [mutL, List.mem_cons, List.mem_append]; exact .inr (.inl hb)) hFb'
    · rcases hnew b hb with h1 | h1
      · exact h.nf b (hX b (List.mem_cons_of_mem _ h1)) hFb'
      · omega
    · exact h.nf b (by simp only [mutL, List.mem_cons, List.mem_append, List.flatMap_cons]; exact .inr (.inr (.inr hb))) hFb'
/-- the innermost element's blocks turn no more: its own row cut by it -/
theorem GR.drop {w0 w w' : World} {G : Nat} {g : Gs} {f : Fr} {fs : List Fr} {vo vr : Value} {F : Nat → Prop} {vo' vr' : Value} {r' : Option Tr} (h : GR w0 Od G g (f :: fs) vo vr F w)
    (hm : Mvd [G] w w') (hobj : w'.heap[G]? = some (.cells #[vo', vr', .int .i64 (g.c : Int)] 49 (0, 0)))
    (hop : OpR w' w0.heap.size vo' (fs.reverse.map Fr.ptr)) (hvo : vo'.ownBlock = vo.ownBlock)
    (hr : (r' = g.root ∧ vr' = vr) ∨ (fs = [] ∧ r' = some f.tr ∧ vr' = f.ptr)) :
    GR w0 Od G ⟨fs.map Fr.tr, r', g.c⟩ fs vo' vr' (fun b => F b ∨ b ∈ f.mut) w' ∧ NdV w' (fun b => F b ∨ b ∈ f.mut) f.tr f.va f.vk ∧ w'.heap[f.N]? = some (.cells #[.string (str f.n), f.va, f.vk, .string ⟨#[]⟩] 26 (0, 0)) := by
  have hlt := h.lt
  have hGm : G ∈ mutL G vo (f :: fs) := by simp [mutL]
  have hfm : ∀ b ∈ f.mut, b ∈ mutL G vo (f :: fs) := fun b hb => by simp only [mutL, List.mem_cons, List.mem_append, List.flatMap_cons]; exact .inr (.inr (.inl hb))
  have hF : ∀ b, F b → b < w.heap.size ∧ b ∉ [G] := fun b hb => ⟨h.fl b hb, fun hx => h.nf b (by rw [List.mem_singleton.1 hx]; exact hGm) hb⟩
  have hFb : ∀ b, F b → w'.heap[b]? = w.heap[b]? := fun b hb => hm.block b (hF b hb).1 (hF b hb).2
  have hnod := h.nod
  simp only [mutL, List.nodup_cons, List.mem_append, List.nodup_append, not_or, List.flatMap_cons] at hnod
  obtain ⟨⟨hG1, hG2, hG3⟩, hvn, ⟨hfn, hfsn, hff⟩, hvf⟩ := hnod
  have hfs : ∀ x ∈ fs, ∀ b ∈ x.mut, b ∉ [G] := fun x hx b hb hbx => by
    rw [List.mem_singleton.1 hbx] at hb
    exact hG3 (List.mem_flatMap.2 ⟨x, hx, hb⟩)
  have hfo := (h.ok f (by simp)).kept (F' := fun b => F b ∨ b ∈ f.mut) hm (fun b hb hbx => by rw [List.mem_singleton.1 hbx] at hb; exact hG2 hb) hF (fun _ h => .inl h)
  have hnv : NdV w' (fun b => F b ∨ b ∈ f.mut) f.tr f.va f.vk := NdV.of_own hfo.row hfo.ra hfo.atF hfo.kid fun q hq => .inr (by simp [Fr.mut, hq])
  refine ⟨⟨h.b.trans (hm.below h.b.size fun k hk => by rw [List.mem_singleton.1 hk]; exact h.gl), hobj, h.gl, ?_, fun b hb => .inl (h.old b hb), (fun b hb hl => hb.elim (fun hb => h.nab b hb hl) (fun hb => absurd hl (by have := (hlt b (hfm b hb)).1; omega))), rfl, ?_, hop, ?_, ?_, ?_, ?_, h.cl, by have := h.dl; simp at this; show fs.length ≤ 64; omega, by have := h.tot; rw [← h.st] at this; simp only [List.map_cons, Tr.sizes] at this; show Tr.sizes (fs.map Fr.tr) ≤ g.c; omega⟩, hnv, hfo.node⟩
  · rintro b (hb | hb)
    · exact Nat.lt_of_lt_of_le (h.fl b hb) hm.size
    · exact Nat.lt_of_lt_of_le (hlt b (hfm b hb)).2 hm.size
  · intro x hx
    exact (h.ok x (List.mem_cons_of_mem _ hx)).kept hm (hfs x hx) hF (fun _ h => .inl h)
  · rcases hr with ⟨rfl, rfl⟩ | ⟨rfl, rfl, rfl⟩
    · exact rt_kept h.rt hFb (fun _ h => .inl h)
    · exact ⟨f.N, f.va, f.vk, rfl, .inr (by simp [Fr.mut]), hfo.node, hnv⟩
  · intro hs
    rcases hr with ⟨rfl, rfl⟩ | ⟨rfl, rfl, rfl⟩
    · exact absurd (h.one hs) (by simp)
    · rfl
  · simp only [mutL, List.nodup_cons, List.mem_append, List.nodup_append, not_or, hvo]
    exact ⟨⟨hG1, hG3⟩, hvn, hfsn, fun a ha b hb => hvf a ha b (.inr hb)⟩
  · intro b hb hFm
    simp only [mutL, List.mem_cons, List.mem_append, hvo] at hb
    rcases hFm with hFm | hFm
    · refine h.nf b ?_ hFm
      simp only [mutL, List.mem_cons, List.mem_append, List.flatMap_cons]
      rcases hb with hb | hb | hb
      · exact .inl hb
      · exact .inr (.inl hb)
      · exact .inr (.inr (.inr hb))
    · rcases hb with rfl | hb | hb
      · exact hG2 hFm
      · exact hvf b hb b (.inl hFm) rfl
      · exact hff b hFm b hb rfl
theorem GR.sep {w0 w : World} {G : Nat} {g : Gs} {f : Fr} {fs : List Fr} {vo vr : Value} {F : Nat → Prop} (h : GR w0 Od G g (f :: fs) vo vr F w) : f.N ∉ f.vk.ownBlock.toList ∧ G ∉ f.mut := by
  have hnod := h.nod
  simp only [mutL, List.nodup_cons, List.mem_append, List.nodup_append, not_or, List.flatMap_cons] at hnod
  obtain ⟨⟨hG1, hG2, hG3⟩, hvn, ⟨hfn, hfsn, hff⟩, hvf⟩ := hnod
  simp only [Fr.mut, List.nodup_cons] at hfn
  exact ⟨hfn.1, hG2⟩
/-- behind the making of a longer row of kids: the element's own block -/
theorem GR.node7 {w0 w w7 : World} {G : Nat} {g : Gs} {f : Fr} {fs : List Fr} {vo vr : Value} {F : Nat → Prop} (h : GR w0 Od G g (f :: fs) vo vr F w) (hm : Mvd f.vk.ownBlock.toList w w7) :
    w7.heap[f.N]? = some (.cells #[.string (str f.n), f.va, f.vk, .string ⟨#[]⟩] 26 (0, 0)) := by
  have hf := h.ok f List.mem_cons_self
  exact (hm.block f.N (Array.getElem?_eq_some_iff.1 hf.node).1 h.sep.1).trans hf.node
/-- one more kid: its row is stored into the element -/
theorem GR.more {w0 w w7 : World} {G : Nat} {g : Gs} {f : Fr} {fs : List Fr} {vo vr : Value} {F : Nat → Prop} (h : GR w0 Od G g (f :: fs) vo vr F w) {k : Kd} (hk : NdV w F k.x k.va k.vk) (htot : f.tr.size + k.x.size + Tr.sizes (fs.map Fr.tr) ≤ g.c)
    {g1 q1 : Nat} (hm : Mvd f.vk.ownBlock.toList w w7) (ho : w7.ownsRow w0.heap.size 26 4 (.slice (some ⟨g1, 0, none⟩) (f.kd.length + 1) q1) (f.kd.length + 1) (rowN f.kd ++ kdL k)) (hor : f.vk.ownBlock = some g1 ∨ w.heap.size ≤ g1) :
    GR w0 Od G ⟨f.tr.add k.x :: fs.map Fr.tr, g.root, g.c⟩ ({ f with vk := .slice (some ⟨g1, 0, none⟩) (f.kd.length + 1) q1, kd := f.kd ++ [k] } :: fs) vo vr F (w7.setCell ⟨f.N, 2, none⟩ (.slice (some ⟨g1, 0, none⟩) (f.kd.length + 1) q1)) := by
  obtain ⟨hs1, hs2⟩ := h.sep
  have hf := h.ok f List.mem_cons_self
  have hn7 := h.node7 hm
  have hNlt := (Array.getElem?_eq_some_iff.1 hf.node).1
  have hg1 : g1 ≠ f.N := by
    rcases hor with h1 | h1
    · intro he; exact hs1 (by rw [h1, he]; simp)
    · omega
  have hG7 : w7.heap[G]? = w.heap[G]? := hm.block G (Array.getElem?_eq_some_iff.1 h.obj).1 fun hx => hs2 (List.mem_cons_of_mem _ hx)
  have hms := Mvd.of_set w7 f.N 2 (.slice (some ⟨g1, 0, none⟩) (f.kd.length + 1) q1)
  have hrow : rowN f.kd ++ kdL k = rowN (f.kd ++ [k]) := (rowN_snoc _ _).symm
  have hlen : f.kd.length + 1 = (f.kd ++ [k]).length := by simp
  have ht : f.tr.add k.x = .mk f.n f.ats ((f.kd ++ [k]).map (·.x)) [] := by simp [Fr.tr, Tr.add, Tr.n, Tr.ats, Tr.ks, Tr.t]
  rw [ht]
  refine h.turn (c' := g.c) h.cl ?_ ?_ ?_ (heap_setCell_same w7 f.N 2 _ _ _ hn7) ?_ ?_ ?_
  · rw [List.map_append, Tr.sizes_app]
    simp only [List.map_cons, List.map_nil, Tr.sizes]
    simp only [Fr.tr, Tr.size] at htot
    omega
  · refine (hm.mono fun x hx => ?_).trans (hms.mono fun x hx => ?_)
    · exact List.mem_cons_of_mem _ (List.mem_cons_of_mem _ hx)
    · rw [List.mem_singleton.1 hx]; simp [Fr.mut]
  · rw [heap_setCell_other w7 _ G _ (fun he => hs2 (by rw [he]; simp [Fr.mut])), hG7]
    exact h.obj
  · rw [← hlen, ← hrow]
    exact own_mvd ho hms fun q hq hx => hg1 (by cases hq; exact List.mem_singleton.1 hx)
  · intro q hq
    cases hq
    exact ⟨hg1, hor⟩
  · intro x hx
    rcases List.mem_append.1 hx with hx | hx
    · exact hf.kid x hx
    · rw [List.mem_singleton.1 hx]; exact hk
/-- one more is counted -/
theorem GR.count {w0 w : World} {G : Nat} {g : Gs} {fs : List Fr} {vo vr : Value} {F : Nat → Prop} (h : GR w0 Od G g fs vo vr F w) (hc : g.c + 1 ≤ 4096) : GR w0 Od G ⟨g.st, g.root, g.c + 1⟩ fs vo vr F (w.setCell ⟨G, 2, none⟩ (.int .i64 ((g.c + 1 : Nat) : Int))) := by
  have hm := Mvd.of_set w G 2 (.int .i64 ((g.c + 1 : Nat) : Int))
  have hlt := h.lt
  have hGm : G ∈ mutL G vo fs := by simp [mutL]
  have hF : ∀ b, F b → b < w.heap.size ∧ b ∉ [G] := fun b hb => ⟨h.fl b hb, fun hx => h.nf b (by rw [List.mem_singleton.1 hx]; exact hGm) hb⟩
  have hFb : ∀ b, F b → (w.setCell ⟨G, 2, none⟩ (.int .i64 ((g.c + 1 : Nat) : Int))).heap[b]? = w.heap[b]? := fun b hb => hm.block b (hF b hb).1 (hF b hb).2
  have hnod := h.nod
  simp only [mutL, List.nodup_cons, List.mem_append, not_or] at hnod
  refine ⟨h.b.trans (hm.below h.b.size fun k hk => by rw [List.mem_singleton.1 hk]; exact h.gl), heap_setCell_same w G 2 _ _ _ h.obj, h.gl, fun b hb => Nat.lt_of_lt_of_le (h.fl b hb) hm.size, h.old, h.nab, h.st, fun f hf => (h.ok f hf).kept hm (fun b hb hx => ?_) hF (fun _ h => h),
    h.op.kept hm (fun q hq hx => ?_), rt_kept h.rt hFb (fun _ h => h), h.one, h.nod, h.nf, hc, h.dl, Nat.le_trans h.tot (Nat.le_succ _)⟩
  · rw [List.mem_singleton.1 hx] at hb
    exact hnod.1.2 (List.mem_flatMap.2 ⟨f, hf, hb⟩)
  · rw [List.mem_singleton.1 hx] at hq
    exact hnod.1.1 (by simp [hq])
end Go.Proofs.YtpbkidmdfibaoaaGreatDoor
