/-
  Layer 17: maps of numbers by keys, as functions from keys to numbers; 'm[k]++' at an entry. Own work.
-/
import Derived.Test.YtgfgajekegfdgaaAdd17
import Derived.Maps.OwnSet
import Derived.WideKeyEntry
import Derived.DeepKeys4
namespace Go.Proofs.Ytgfgajekegfdgaa
set_option linter.unusedVariables false
set_option linter.unusedSimpArgs false
open Go.RowKit Go.WideElems Go.MapKept
open Go.ChangeMaps (setBlock heap_setBlock_same heap_setBlock_other)

def okKy (k : Ky) : Prop := k.g.size ≤ maxLen ∧ k.a.size ≤ maxLen ∧ k.t.size ≤ maxLen ∧ k.c.size ≤ maxLen
def litK (k : Ky) : Lit := .string (keyBytes [.string k.g.data.toList, .string k.a.data.toList, .string k.t.data.toList, .string k.c.data.toList])
theorem rowK : (47 : TypeId) < Try.prog.types.size := of_decide_eq_true (by kernel_rfl)
theorem wideK : (match Try.prog.underlying 47 with | some (.array _ _) | some (.struct _) => true | _ => false) = true := by rw [Try.underlying47]
theorem kLaw : WideMaps.KeyLaw Try.prog 47 := deep_law_laid laid_out (m := 2) (by omega) rowK (by kernel_rfl) wideK
theorem kKeyed : Maps.Keyed Try.prog 47 := Maps.Keyed.of_law kLaw
theorem key_is {k : Ky} (h : okKy k) : keyOf Try.prog 47 (.agg #[.string k.g, .string k.a, .string k.t, .string k.c]) = some (litK k) := by
  obtain ⟨h0, h1, h2, h3⟩ := h
  have hkt : Try.prog.keyType 47 = true := by kernel_rfl
  have hc : Try.prog.cellsOf 47 = 4 := by kernel_rfl
  have hs : Try.prog.cellsOf 9 = 1 := by kernel_rfl
  obtain ⟨m, hm⟩ : ∃ m, Try.prog.types.size = m + 1 := ⟨_, (show Try.prog.types.size = (Try.prog.types.size - 1) + 1 by kernel_rfl)⟩
  unfold keyOf
  simp only [Try.underlying47]
  rw [if_pos (by simp [hkt, Value.formed, Try.underlying47, hc]), hm]
  unfold Program.keyLits
  simp only [Try.underlying47, Value.cells]
  rw [if_pos ⟨by rw [hc]; rfl, by simp⟩]
  simp [List.mapM_cons, List.mapM_nil, Program.keyLits, hs, Try.underlying9, h0, h1, h2, h3, litK]
theorem litK_inj {k k' : Ky} (h : okKy k) (h' : okKy k') (e : litK k = litK k') : k = k' := by
  have := kLaw.inj (key_is h) (e ▸ key_is h')
  obtain ⟨a, b, c, d⟩ := k
  obtain ⟨a', b', c', d'⟩ := k'
  simp only [Value.agg.injEq, Array.mk.injEq, List.cons.injEq, Value.string.injEq, and_true] at this
  obtain ⟨rfl, rfl, rfl, rfl⟩ := this
  rfl
theorem zero_int (w : World) : (zeroValue 3).run Try.prog w = .ok (.int .i64 0) w := by kernel_rfl
/-- block b is a map of at most n entries that gives each key its number -/
def Nums (w : World) (b n : Nat) (f : Ky → Option Int) : Prop :=
  ∃ D : DataW Unit, w.ownsMap Try.prog 47 (plainElem Try.prog 3) b n D ∧ ∀ k, okKy k → Maps.has D (litK k) = (f k).isSome ∧ D.atKey (litK k) (.lit (.int .i64 0)) = .lit (.int .i64 ((f k).getD 0))
section
variable {w w' : World} {b n : Nat} {f : Ky → Option Int} {k : Ky} {row : Option Nat}
theorem Nums.made (w : World) : Nums (w.alloc (.map #[] 0)) w.heap.size 0 (fun _ => none) :=
  ⟨_, World.ownsMap_made _ _ _ _, fun k _ => ⟨rfl, rfl⟩⟩
theorem Nums.kept (h : Nums w b n f) (hg : w.grownBy w' row) (hne : some b ≠ row) : Nums w' b n f := by
  obtain ⟨D, h1, h2⟩ := h
  exact ⟨D, h1.kept hg hne, h2⟩
theorem Nums.alloc (h : Nums w b n f) (o : Obj) : Nums (w.alloc o) b n f := by
  obtain ⟨D, h1, h2⟩ := h
  exact ⟨D, h1.alloc o, h2⟩
theorem Nums.drew (h : Nums w b n f) : Nums w.drew b n f := by
  obtain ⟨D, h1, h2⟩ := h
  exact ⟨D, h1.drew, h2⟩
theorem Nums.lt (h : Nums w b n f) : b < w.heap.size := by
  obtain ⟨D, h1, h2⟩ := h
  exact h1.lt
theorem Nums.look (h : Nums w b n f) (hk : okKy k) : (Instr.lookup 59 (.map (some b)) (.agg #[.string k.g, .string k.a, .string k.t, .string k.c]) false).run Try.prog w = .ok (.int .i64 ((f k).getD 0)) w := by
  obtain ⟨D, h1, h2⟩ := h
  obtain ⟨c, hr, hat, hw⟩ := h1.lookup_int kKeyed Try.underlying59 Try.underlying3 (zero_int _) (key_is hk)
  rw [(h2 k hk).2] at hat
  simp only [DataW.lit.injEq, Lit.int.injEq, true_and] at hat
  rw [hr, hat]
/-- the function with another number for k -/
def putN (f : Ky → Option Int) (k : Ky) (m : Int) : Ky → Option Int := fun q => if sameK q k = true then some m else f q
theorem nums_put {D : DataW Unit} (hD : Maps.IsMap D) (hf : ∀ k, okKy k → Maps.has D (litK k) = (f k).isSome ∧ D.atKey (litK k) (.lit (.int .i64 0)) = .lit (.int .i64 ((f k).getD 0))) (hk : okKy k) (m : Int) :
    ∀ q, okKy q → Maps.has (D.put (litK k) (.lit (.int .i64 m))) (litK q) = (putN f k m q).isSome ∧ (D.put (litK k) (.lit (.int .i64 m))).atKey (litK q) (.lit (.int .i64 0)) = .lit (.int .i64 ((putN f k m q).getD 0)) := by
  intro q hq
  have hkl : WideAt.IsKeyLit (litK k) := kKeyed.key (key_is hk)
  by_cases e : q = k
  · subst e
    rw [Maps.has_put_same hD hkl, Maps.atKey_put_same hD hkl]
    unfold putN
    rw [if_pos (sameK_self q)]
    exact ⟨rfl, rfl⟩
  · have hne : litK q ≠ litK k := fun h => e (litK_inj hq hk h)
    rw [Maps.has_put_other hne, Maps.atKey_put_other hne]
    unfold putN
    rw [if_neg (fun h => e (sameK_eq.1 h))]
    exact hf q hq
theorem wf_of {m : Int} (h0 : -9223372036854775808 ≤ m) (h1 : m ≤ 9223372036854775807) : (Lit.int .i64 m).wf = true := by
  have h2 : IntKind.i64.min = -9223372036854775808 := rfl
  have h3 : IntKind.i64.max = 9223372036854775807 := rfl
  simp only [Lit.wf, Bool.and_eq_true, decide_eq_true_eq]
  omega
/-- `m[k] = x` -/
theorem Nums.update (h : Nums w b n f) (hk : okKy k) (hn : n ≤ 1000000) {m : Int} (h0 : -9223372036854775808 ≤ m) (h1 : m ≤ 9223372036854775807) :
    ∃ w', (Instr.mapUpdate 59 (.map (some b)) (.agg #[.string k.g, .string k.a, .string k.t, .string k.c]) (.int .i64 m)).run Try.prog w = .ok () w' ∧ Nums w' b (n + 1) (putN f k m) ∧ w.grownBy w' (some b) := by
  obtain ⟨D, h2, h3⟩ := h
  obtain ⟨w', a1, a2, a3⟩ := h2.update kKeyed Try.underlying59 (by unfold maxLen; omega) (key_is hk) (plainElem_int Try.underlying3 (wf_of h0 h1))
  exact ⟨w', a1, ⟨_, a2, nums_put h2.isMap h3 hk m⟩, a3⟩
theorem putN_self (f : Ky → Option Int) (k : Ky) (m : Int) : putN f k m k = some m := by unfold putN; rw [if_pos (sameK_self k)]
end
theorem modify_same {α : Type} (xs : Array α) (j : Nat) (f : α → α) (h : ∀ x, xs[j]? = some x → f x = x) : xs.modify j f = xs := by
  apply Array.ext_getElem?
  intro i
  rw [Array.getElem?_modify]
  split
  · rename_i e
    subst e
    cases hx : xs[j]? with
    | none => rfl
    | some x => simp [h x hx]
  · rfl
/-- what stands at an entry is what a look-up gives, before and behind -/
theorem entry_look {H : Type} {P : Program} {w : World} {t k e : TypeId} {R : Value → Option (DataW H × List MemPlace)} {b : Nat} {es : Array MapEntry} {clock : Nat} (K : WideMaps.KeyLaw P k) (ht : P.underlying t = some (.map k e)) {z : Value}
    (hz : ∀ u : World, (zeroValue e).run P u = .ok z u) (hb : w.heap[b]? = some (.map es clock)) (F : Fit P k R es clock) {key : Value} {kl : Lit} (hkey : keyOf P k key = some kl) {v s : Value} {w1 : World}
    (hr : (Instr.mapEntry t (.map (some b)) key).run P w = .ok (.tuple #[v, s]) w1) :
    (Instr.lookup t (.map (some b)) key false).run P w = .ok v w ∧ (Instr.lookup t (.map (some b)) key false).run P w1 = .ok v w1 := by
  have hck := fun u => K.check u false hkey
  have hcl := fun u em => K.check u em hkey
  have hu := fun u => run_underlying ht u
  rcases K.find w hkey es.toList F.keys with ⟨hn, hno⟩ | ⟨j, e0, hf, hj, he⟩
  · have hm : (Instr.mapEntry t (.map (some b)) key).run P w = .ok (.tuple #[z, goInt clock]) (setBlock w b (.map (es.push ⟨key, z, clock⟩) (clock + 1))) := by
      simp [Instr.mapEntry, hu, MapKept.run_getObj_map hb, hck, hn, hz, MapKept.run_setObj_map _ hb, Result.andThen, setBlock]
    rw [hm] at hr
    simp only [Result.ok.injEq, Value.tuple.injEq, Array.mk.injEq, List.cons.injEq, and_true] at hr
    obtain ⟨⟨rfl, -⟩, rfl⟩ := hr
    refine ⟨by simp [Instr.lookup, hu, MapKept.run_getObj_map hb, hcl, hn, hz, Result.andThen], ?_⟩
    have hb1 := heap_setBlock_same hb (.map (es.push ⟨key, z, clock⟩) (clock + 1))
    have hkeys : ∀ x ∈ (es.push ⟨key, z, clock⟩).toList, ∃ l, keyOf P k x.key = some l := fun x hx => by
      simp only [Array.toList_push, List.mem_append, List.mem_singleton] at hx
      rcases hx with hx | rfl
      · exact F.keys x hx
      · exact ⟨kl, hkey⟩
    rcases K.find (setBlock w b (.map (es.push ⟨key, z, clock⟩) (clock + 1))) hkey _ hkeys with ⟨_, h2⟩ | ⟨i, x, h1, h2, h3⟩
    · exact absurd rfl (h2 ⟨key, z, clock⟩ (by simp))
    · have hx : x.val = z := by
        have hm := List.mem_of_getElem? h2
        simp only [Array.toList_push, List.mem_append, List.mem_singleton] at hm
        rcases hm with hm | rfl
        · exact absurd h3 (hno x hm)
        · rfl
      simp only [Array.toList_push] at h1
      simp [Instr.lookup, hu, MapKept.run_getObj_map hb1, hcl, h1, hx, Result.andThen]
  · have hj' : es[j]? = some e0 := by simpa using hj
    have hsame : es.modify j (fun e => { e with key := key }) = es := modify_same _ _ _ fun x hx => by
      rw [hj'] at hx
      cases hx
      rw [← he]
    have hw : setBlock w b (.map es clock) = w := by
      unfold setBlock
      have : w.heap.setIfInBounds b (.map es clock) = w.heap := by
        apply Array.ext_getElem?
        intro i
        by_cases hi : i = b
        · subst hi
          rw [Array.getElem?_setIfInBounds_self_of_lt (Array.getElem?_eq_some_iff.1 hb).1, hb]
        · rw [Array.getElem?_setIfInBounds_ne (Ne.symm hi)]
      rw [this]
    have hm : (Instr.mapEntry t (.map (some b)) key).run P w = .ok (.tuple #[e0.val, goInt e0.born]) w := by
      have h := MapKept.run_setObj_map (P := P) (.map es clock) hb
      simp only [setBlock] at hw
      rw [hw] at h
      simp [Instr.mapEntry, hu, MapKept.run_getObj_map hb, hck, hf, hj', he, K.stays w hkey, hsame, h, Result.andThen]
    have hl : (Instr.lookup t (.map (some b)) key false).run P w = .ok e0.val w := by simp [Instr.lookup, hu, MapKept.run_getObj_map hb, hcl, hf, hz, Result.andThen]
    rw [hm] at hr
    simp only [Result.ok.injEq, Value.tuple.injEq, Array.mk.injEq, List.cons.injEq, and_true] at hr
    obtain ⟨⟨rfl, -⟩, rfl⟩ := hr
    exact ⟨hl, hl⟩
/-- `m[k]++`'s entry -/
theorem Nums.entry {w : World} {b n : Nat} {f : Ky → Option Int} {k : Ky} (h : Nums w b n f) (hk : okKy k) (hn : n ≤ 1000000) :
    ∃ (st : Nat) (w1 : World), (Instr.mapEntry 59 (.map (some b)) (.agg #[.string k.g, .string k.a, .string k.t, .string k.c])).run Try.prog w = .ok (.tuple #[.int .i64 ((f k).getD 0), goInt st]) w1 ∧
      (Instr.lookup 59 (.map (some b)) (.agg #[.string k.g, .string k.a, .string k.t, .string k.c]) false).run Try.prog w1 = .ok (.int .i64 ((f k).getD 0)) w1 ∧ w.grownBy w1 (some b) ∧
      ∀ (w2 : World), w2.heap[b]? = w1.heap[b]? → ∀ m : Int, -9223372036854775808 ≤ m → m ≤ 9223372036854775807 → ∃ w3, (Instr.entryStore 59 (.map (some b)) (goInt st) (.int .i64 m)).run Try.prog w2 = .ok () w3 ∧ Nums w3 b (n + 1) (putN f k m) ∧ w2.grownBy w3 (some b) := by
  have hl := h.look hk
  obtain ⟨D, h2, h3⟩ := h
  have h2' := h2
  obtain ⟨es, clock, hb, F, hs, hDe⟩ := h2
  obtain ⟨v0, st, es1, clock1, r1, -, r4⟩ := entry_then_store (w := w) kLaw Try.underlying59 zero_int hb F (key_is hk)
  obtain ⟨q1, q2⟩ := entry_look kLaw Try.underlying59 zero_int hb F (key_is hk) r1
  rw [hl] at q1
  simp only [Result.ok.injEq, and_true] at q1
  subst q1
  refine ⟨st, _, r1, q2, ⟨rfl, rfl, rfl, by simp [setBlock], fun i _ hi => heap_setBlock_other hb _ (fun e => hi (by rw [e]))⟩, fun w2 hw2 m m0 m1 => ?_⟩
  rw [heap_setBlock_same hb] at hw2
  obtain ⟨es', clock', q1, q2⟩ := r4 w2 (.int .i64 m) hw2
  obtain ⟨w', b1, b2, b3⟩ := h2'.update kKeyed Try.underlying59 (by unfold maxLen; omega) (key_is hk) (plainElem_int Try.underlying3 (wf_of m0 m1))
  rw [q2] at b1
  simp only [Result.ok.injEq, true_and] at b1
  subst b1
  refine ⟨_, q1, ⟨_, ?_, nums_put h2'.isMap h3 hk m⟩, ⟨rfl, rfl, rfl, by simp [setBlock], fun i _ hi => heap_setBlock_other hw2 _ (fun e => hi (by rw [e]))⟩⟩
  obtain ⟨es3, clock3, c1, c2, c3, c4⟩ := b2
  rw [heap_setBlock_same hb] at c1
  simp only [Option.some.injEq, Obj.map.injEq] at c1
  obtain ⟨rfl, rfl⟩ := c1
  exact ⟨_, _, heap_setBlock_same hw2 _, c2, c3, c4⟩
end Go.Proofs.Ytgfgajekegfdgaa
