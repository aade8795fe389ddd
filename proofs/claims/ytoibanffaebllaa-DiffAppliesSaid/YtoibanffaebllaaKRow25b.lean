/-
  Layer 25: rows of keys, cut and put together in a region that draws its order; where a key is put in. Own work.
-/
import Derived.Test.YtoibanffaebllaaKRow25
import Derived.Test.YtoibanffaebllaaApt25
namespace Go.Proofs.Ytoibanffaebllaa
set_option linter.unusedVariables false
set_option linter.unusedSimpArgs false
open Go.RowKit

theorem RdK.cap {w : World} {a : Option Addr} {n c : Nat} {l : List K4} (h : RdK w (.slice a n c) l) : n = l.length ∧ n ≤ c := by
  rcases h with ⟨h, rfl⟩ | ⟨b, cap, h, h1, _⟩
  · cases h; exact ⟨rfl, Nat.le_refl _⟩
  · cases h; exact ⟨rfl, h1⟩
theorem RdK.to {w : World} {a : Option Addr} {n c k : Nat} {l : List K4} (h : RdK w (.slice a n c) l) (hk : k ≤ l.length) : RdK w (sliced a 0 k k 4) (l.take k) ∧ FullK (sliced a 0 k k 4) (l.take k).length := by
  have hl : (l.take k).length = k := by rw [List.length_take]; omega
  rw [hl]
  rcases h with ⟨h, rfl⟩ | ⟨b, cap, h, h1, h2, h3⟩
  · cases h
    have hk0 : k = 0 := by simpa using hk
    subst hk0
    exact ⟨.inl ⟨rfl, rfl⟩, .inl ⟨rfl, rfl⟩⟩
  · cases h
    have e : sliced (some b) 0 k k 4 = .slice (some (if k = 0 then b else b.add 0)) k k := by
      simp only [sliced, Nat.sub_zero, Nat.zero_mul]; split <;> rfl
    rw [e]
    refine ⟨.inr ⟨if k = 0 then b else b.add 0, k, by rw [hl], by omega, by omega, fun j u hu => ?_⟩, .inr ⟨_, rfl⟩⟩
    rw [rowK_take] at hu
    have hu' : (rowK l)[j]? = some u := by
      rw [List.getElem?_take] at hu
      split at hu
      · exact hu
      · cases hu
    have := h3 j u hu'
    split
    · exact this
    · rw [Go.Deep.add_add, Nat.zero_add]; exact this
theorem RdK.from {w : World} {a : Option Addr} {n c k : Nat} {l : List K4} (h : RdK w (.slice a n c) l) (hk : k ≤ l.length) : RdK w (sliced a k n c 4) (l.drop k) := by
  have hl : (l.drop k).length = l.length - k := by rw [List.length_drop]
  rcases h with ⟨h, rfl⟩ | ⟨b, cap, h, h1, h2, h3⟩
  · cases h
    have hk0 : k = 0 := by simpa using hk
    subst hk0
    exact .inl ⟨rfl, rfl⟩
  · cases h
    have e : sliced (some b) k l.length c 4 = .slice (some (if c = k then b else b.add (k * 4))) (l.length - k) (c - k) := by
      simp only [sliced]; split <;> rfl
    rw [e]
    refine .inr ⟨_, c - k, by rw [hl], by omega, by omega, fun j u hu => ?_⟩
    rw [rowK_drop, List.getElem?_drop] at hu
    have := h3 _ u hu
    split
    · have hj := (List.getElem?_eq_some_iff.1 hu).1
      rw [rowK_len] at hj
      omega
    · rw [Go.Deep.add_add]; exact this
theorem yields_to {ops : Array Oper} {S : World → Prop} {op : Oper} {a : Act} (hw : Region.wanted op (yielded ops a.tmps) = true) (x y z : Operand) (ho : op.op = .slice 58 x none (some y) (some z)) (b : Option Addr) (n c k : Nat) (hx : a.eval x = .slice b n c) (hy : a.eval y = .int .i64 k) (hz : a.eval z = .int .i64 k) (hk : k ≤ c) :
    YieldsIf Try.prog ops S op (sliced b 0 k k 4) a :=
  .inl ⟨hw, fun w _ => by
    have ht := Try.underlying58
    have he : Try.prog.elem 58 = 46 := by kernel_rfl
    have hsz := Try.sizeOf46 (w := w)
    unfold execOp
    simp only [ho, Option.map_some, Option.map_none, hx, hy, hz, Sem.run_bind]
    rw [run_sliceAt_slice _ _ _ _ _ _ (by rw [he]; exact ht), run_slice_hm _ _ _ _ _ (by rw [he]; exact ht) _ _ _ _ (by omega) (by omega) (by omega), he, hsz]
    simp only [Result.andThen_ok, Sem.run_pure, Int.toNat_natCast]⟩
theorem yields_from {ops : Array Oper} {S : World → Prop} {op : Oper} {a : Act} (hw : Region.wanted op (yielded ops a.tmps) = true) (x y : Operand) (ho : op.op = .slice 58 x (some y) none none) (b : Option Addr) (n c k : Nat) (hx : a.eval x = .slice b n c) (hy : a.eval y = .int .i64 k) (hk : k ≤ n) :
    YieldsIf Try.prog ops S op (sliced b k n c 4) a :=
  .inl ⟨hw, fun w _ => by
    have ht := Try.underlying58
    have he : Try.prog.elem 58 = 46 := by kernel_rfl
    have hsz := Try.sizeOf46 (w := w)
    unfold execOp
    simp only [ho, Option.map_some, Option.map_none, hx, hy, Sem.run_bind]
    rw [run_sliceAt_slice _ _ _ _ _ _ (by rw [he]; exact ht), run_slice_l _ _ _ _ _ (by rw [he]; exact ht) _ _ (by omega) (by omega), he, hsz]
    simp only [Result.andThen_ok, Sem.run_pure, Int.toNat_natCast]⟩
theorem wp_app_full {o : Oper} {a : Act} {w : World} {K : Act → World → Prop} {Q : Exit → Act → World → Prop} (s x : Operand)
    (ho : o.op = .call { callee := .builtin .append, args := #[s, x], argTypes := #[58, 58] }) (v1 v2 : Value) (hs : a.eval s = v1) (hx : a.eval x = v2) (l m : List K4) (h1 : RdK w v1 l) (hf : FullK v1 l.length) (h2 : RdK w v2 m) (hn : l.length + m.length ≤ 1000000)
    (h : ∀ v' w', RdK w' v' (l ++ m) → Below w.heap.size w w' → K (a.put o.dst v') w') : o.wp Try.prog a w K Q := by
  obtain ⟨v', w', hr, hrd, hb⟩ := run_app_full w o.type v1 v2 l m h1 hf h2 hn
  unfold Oper.wp execOp
  simp only [ho, resolve, invoke, builtin, Sem.run_bind, Sem.run_pure, Result.andThen_ok, List.map_toArray, List.map_cons, List.map_nil, hs, hx, hr]
  exact h v' w' hrd hb
theorem RdK.single (w : World) (k : K4) : RdK (w.alloc (.cells #[.string k.g, .string k.a, .string k.t, .string k.c] 46)) (.slice (some ⟨w.heap.size, 0, none⟩) 1 1) [k] :=
  .inr ⟨⟨w.heap.size, 0, none⟩, 1, rfl, by simp, by omega, fun j u hu => by
    rw [add_off, cell_of_row _ w.heap.size j _ _ (0, 0) (heap_alloc_new w _)]
    have : (#[.string k.g, .string k.a, .string k.t, .string k.c] : Array Value) = (rowK [k]).toArray := rfl
    rw [this]
    simpa using hu⟩
/-! the place of a key, and what the answer's Keys makes -/
def insK (out : List K4) (q : K4) (n : Nat) : List K4 := out.take n ++ q :: out.drop n
/-- all before the place are less, what stands there isn't -/
def PosK (out : List K4) (q : K4) (n : Nat) : Prop := n ≤ out.length ∧ (∀ m x, m < n → out[m]? = some x → kcmp x q < 0) ∧ ∀ x, out[n]? = some x → 0 ≤ kcmp x q
def hasK (out : List K4) (q : K4) : Bool := out.any fun x => sameK x q
def RisK (l : List K4) : Prop := Ris (fun k => k) l
theorem PosK.lt {out : List K4} {q : K4} {n : Nat} (h : PosK out q n) (hr : RisK out) {x : K4} (hx : x ∈ out.take n) : kcmp x q < 0 := by
  obtain ⟨i, hi⟩ := List.getElem?_of_mem hx
  rw [List.getElem?_take] at hi
  split at hi
  · exact h.2.1 i x (by assumption) hi
  · cases hi
theorem PosK.ge {out : List K4} {q : K4} {n : Nat} (h : PosK out q n) (hr : RisK out) {x : K4} (hx : x ∈ out.drop n) : 0 ≤ kcmp x q := by
  obtain ⟨i, hi⟩ := List.getElem?_of_mem hx
  rw [List.getElem?_drop] at hi
  rcases Nat.eq_zero_or_pos i with rfl | hp
  · exact h.2.2 x (by simpa using hi)
  · obtain ⟨y, hy⟩ : ∃ y, out[n]? = some y := ⟨_, List.getElem?_eq_getElem (by have := (List.getElem?_eq_some_iff.1 hi).1; omega)⟩
    have h1 := h.2.2 y hy
    have hlt : kcmp y x < 0 := by
      obtain ⟨g1, g2⟩ := List.getElem?_eq_some_iff.1 hy
      obtain ⟨g3, g4⟩ := List.getElem?_eq_some_iff.1 hi
      have := List.pairwise_iff_getElem.1 hr n (n + i) g1 g3 (by omega)
      rw [g2, g4] at this
      exact this
    rcases Int.lt_or_le (kcmp x q) 0 with h2 | h2
    · have := kcmp_lt_trans hlt h2
      omega
    · exact h2
theorem PosK.has {out : List K4} {q : K4} {n : Nat} (h : PosK out q n) (hr : RisK out) : (∃ x, out[n]? = some x ∧ sameK x q = true) ↔ q ∈ out := by
  constructor
  · rintro ⟨x, hx, hs⟩
    rw [← sameK_eq.1 hs]
    exact List.mem_of_getElem? hx
  · intro hq
    rw [← List.take_append_drop n out, List.mem_append] at hq
    rcases hq with hq | hq
    · have := h.lt hr hq
      rw [kcmp_self] at this; omega
    · obtain ⟨i, hi⟩ := List.getElem?_of_mem hq
      rw [List.getElem?_drop] at hi
      rcases Nat.eq_zero_or_pos i with rfl | hp
      · exact ⟨q, by simpa using hi, sameK_eq.2 rfl⟩
      · exfalso
        obtain ⟨y, hy⟩ : ∃ y, out[n]? = some y := ⟨_, List.getElem?_eq_getElem (by have := (List.getElem?_eq_some_iff.1 hi).1; omega)⟩
        have h1 := h.2.2 y hy
        obtain ⟨g1, g2⟩ := List.getElem?_eq_some_iff.1 hy
        obtain ⟨g3, g4⟩ := List.getElem?_eq_some_iff.1 hi
        have := List.pairwise_iff_getElem.1 hr n (n + i) g1 g3 (by omega)
        rw [g2, g4] at this
        have h2 : kcmp y q < 0 := this
        omega
theorem PosK.ins {out : List K4} {q : K4} {n : Nat} (h : PosK out q n) (hr : RisK out) (hq : q ∉ out) : RisK (insK out q n) := by
  unfold RisK Ris insK
  rw [List.pairwise_append]
  refine ⟨hr.sublist (List.take_sublist _ _), List.pairwise_cons.2 ⟨fun x hx => ?_, hr.sublist (List.drop_sublist _ _)⟩, fun x hx y hy => ?_⟩
  · have h1 := h.ge hr hx
    rcases Int.lt_or_eq_of_le h1 with h2 | h2
    · exact kcmp_gt h2
    · exact absurd (kcmp_zero h2.symm ▸ List.mem_of_mem_drop hx) hq
  · have h1 := h.lt hr hx
    rcases List.mem_cons.1 hy with rfl | hy
    · exact h1
    · have h2 := h.ge hr hy
      rcases Int.lt_or_eq_of_le h2 with h3 | h3
      · exact kcmp_lt_trans h1 (kcmp_gt h3)
      · rw [← kcmp_zero h3.symm] at h1; exact h1
theorem ins_mem {out : List K4} {q x : K4} {n : Nat} : x ∈ insK out q n ↔ x = q ∨ x ∈ out := by
  unfold insK
  rw [List.mem_append, List.mem_cons]
  constructor
  · rintro (h | h | h)
    · exact .inr (List.mem_of_mem_take h)
    · exact .inl h
    · exact .inr (List.mem_of_mem_drop h)
  · rintro (h | h)
    · exact .inr (.inl h)
    · rw [← List.take_append_drop n out, List.mem_append] at h
      rcases h with h | h
      · exact .inl h
      · exact .inr (.inr h)
theorem ins_len {out : List K4} {q : K4} {n : Nat} : (insK out q n).length = out.length + 1 := by
  have h := congrArg List.length (List.take_append_drop n out)
  rw [List.length_append] at h
  unfold insK
  rw [List.length_append, List.length_cons]; omega
/-- the keys of some pins, rising, each once -/
def IsKeys (l : List Pn) (out : List K4) : Prop := RisK out ∧ (∀ q, q ∈ out ↔ ∃ p ∈ l, p.key = q) ∧ out.length ≤ l.length
end Go.Proofs.Ytoibanffaebllaa
