/-
  Layer 8: a Table in memory, and what turns when it is used. Own work.
-/
import Derived.Test.YthfholnnkdoagaaLku8
import Derived.Test.YthfholnnkdoagaaPq8
namespace Go.Proofs.Ythfholnnkdoagaa
set_option linter.unusedVariables false
set_option linter.unusedSimpArgs false
open Go.RowKit

def prs (U : List Pp) : List Pr := U.map fun p => ⟨str p.1, str p.2⟩
theorem prs_len (U : List Pp) : (prs U).length = U.length := by simp [prs]
theorem prs_at {U : List Pp} {i : Nat} {p : Pp} (h : U[i]? = some p) : (prs U)[i]? = some ⟨str p.1, str p.2⟩ := by simp [prs, h]
theorem eqS_str (a b : List UInt8) : eqS (str a) (str b) = (a == b) := by
  rw [Bool.eq_iff_iff, eqS_iff, beq_iff_eq]
  exact ⟨fun h => by simpa [str] using congrArg (fun x : ByteArray => x.data.toList) h, fun h => by rw [h]⟩
/-- a name's place, a property's place among the values -/
def numF (U : List Pp) (t : ByteArray) : Option Nat := U.findIdx? fun p => eqS (str p.1) t
def doneF (U D : List Pp) (i : Nat) : Option Nat := U[i]?.bind fun p => D.findIdx? fun q => q.1 == p.1
structure Tb where
  B : Nat
  T : Nat
  N : Nat
  Dn : Nat
  vp : Value
  m : Int
structure StV (S : Tb) (U D : List Pp) (vv : Value) (w : World) : Prop where
  tab : w.heap[S.T]? = some (.cells #[S.vp, .map (some S.N), .map (some S.Dn), vv, .int .i64 (D.length : Int)] 75 (0, 0))
  props : w.ownsRow S.B 33 2 S.vp (prs U).length (rowPr (prs U))
  number : Places w S.N U.length (numF U)
  done : PlacesI w S.Dn D.length (doneF U D)
  vals : w.ownsRow S.B 9 1 vv D.length (strVs (D.map (·.2)))
  ne : S.N ≠ S.Dn
  low : S.B ≤ S.T ∧ S.B ≤ S.N ∧ S.B ≤ S.Dn
  mx : w.cell? ⟨0, 0, none⟩ = some (.int .i64 S.m)
  mxB : 0 < S.B
/-- the table remembers D; none of the blocks X is one that turns -/
def St (S : Tb) (U D : List Pp) (X : Nat → Prop) (w : World) : Prop :=
  ∃ vv, StV S U D vv w ∧ ∀ k, X k → k < w.heap.size ∧ k ≠ S.T ∧ k ≠ S.Dn ∧ vv.ownBlock ≠ some k
/-- the row of places that are met -/
def Wy (S : Tb) (X : Nat → Prop) (way : List Nat) (vw : Value) (w : World) : Prop :=
  w.ownsRow S.B 3 1 vw way.length (way.map fun i : Nat => Value.int .i64 (i : Int)) ∧ ∀ k, X k → vw.ownBlock ≠ some k
/-- what stays as it was: the blocks X, the elder ones, all but tables, texts, numbers and maps -/
structure Kp (S : Tb) (X : Nat → Prop) (w w' : World) : Prop where
  os : w'.os = w.os
  tape : w'.tape = w.tape
  output : w'.output = w.output
  size : w.heap.size ≤ w'.heap.size
  x : ∀ k, X k → k < w.heap.size → w'.heap[k]? = w.heap[k]?
  low : ∀ k, k < S.B → k < w.heap.size → w'.heap[k]? = w.heap[k]?
  ty : ∀ (k : Nat) (cs : Array Value) (t : TypeId) (fz : Nat × Nat), w.heap[k]? = some (Obj.cells cs t fz) → t ≠ 75 → t ≠ 9 → t ≠ 3 → w'.heap[k]? = some (Obj.cells cs t fz)
section
variable {S : Tb} {U D : List Pp} {vv vw : Value} {X Y : Nat → Prop} {w w' w'' : World} {way : List Nat} {B : Nat}
theorem Kp.refl (S : Tb) (X : Nat → Prop) (w : World) : Kp S X w w := ⟨rfl, rfl, rfl, Nat.le_refl _, fun _ _ _ => rfl, fun _ _ _ => rfl, fun _ _ _ _ h _ _ _ => h⟩
theorem Kp.trans (h : Kp S X w w') (h' : Kp S X w' w'') : Kp S X w w'' :=
  ⟨h'.os.trans h.os, h'.tape.trans h.tape, h'.output.trans h.output, Nat.le_trans h.size h'.size,
    fun k hk hl => (h'.x k hk (Nat.lt_of_lt_of_le hl h.size)).trans (h.x k hk hl),
    fun k hk hl => (h'.low k hk (Nat.lt_of_lt_of_le hl h.size)).trans (h.low k hk hl),
    fun k cs t fz hk h1 h2 h3 => h'.ty k cs t fz (h.ty k cs t fz hk h1 h2 h3) h1 h2 h3⟩
theorem Kp.mono (h : Kp S X w w') (hXY : ∀ k, Y k → X k) : Kp S Y w w' := ⟨h.os, h.tape, h.output, h.size, fun k hk => h.x k (hXY k hk), h.low, h.ty⟩
theorem Kp.of_below (h : Below w.heap.size w w') : Kp S X w w' :=
  ⟨h.os, h.tape, h.output, h.size, fun k _ hl => h.block k hl, fun k _ hl => h.block k hl, fun k cs t fz hk _ _ _ => (h.block k (Array.getElem?_eq_some_iff.1 hk).1).trans hk⟩
/-- what is made behind w may turn -/
theorem Kp.below (h : Kp S X w w') (hb : Below w.heap.size w' w'') : Kp S X w w'' :=
  ⟨hb.os.trans h.os, hb.tape.trans h.tape, hb.output.trans h.output, Nat.le_trans h.size hb.size,
    fun k hk hl => (hb.block k hl).trans (h.x k hk hl),
    fun k hk hl => (hb.block k hl).trans (h.low k hk hl),
    fun k cs t fz hk h1 h2 h3 => (hb.block k (Array.getElem?_eq_some_iff.1 hk).1).trans (h.ty k cs t fz hk h1 h2 h3)⟩
theorem Kp.cell (h : Kp S X w w') {k : Nat} (hk : X k) {a : Addr} {v : Value} (ha : a.block = k) (hc : w.cell? a = some v) : w'.cell? a = some v := by
  have hlt := World.block_lt_of_cell? w _ hc
  have := h.x k hk (by rw [← ha]; exact hlt)
  unfold World.cell? at hc ⊢
  rw [ha] at hc ⊢
  rw [this]
  exact hc
theorem places_frame {b n : Nat} {f : ByteArray → Option Nat} (h : Places w b n f) (hb : w'.heap[b]? = w.heap[b]?) : Places w' b n f := by
  obtain ⟨E, ⟨es, clock, h1, h2⟩, h3⟩ := h
  exact ⟨E, ⟨es, clock, hb.trans h1, h2⟩, h3⟩
theorem placesI_frame {b n : Nat} {f : Nat → Option Nat} (h : PlacesI w b n f) (hb : w'.heap[b]? = w.heap[b]?) : PlacesI w' b n f := by
  obtain ⟨E, ⟨es, clock, h1, h2⟩, h3⟩ := h
  exact ⟨E, ⟨es, clock, hb.trans h1, h2⟩, h3⟩
theorem Places.mapped {b n : Nat} {f : ByteArray → Option Nat} (h : Places w b n f) : ∃ es clock, w.heap[b]? = some (Obj.map es clock) := by
  obtain ⟨E, ⟨es, clock, h1, h2⟩, h3⟩ := h
  exact ⟨es, clock, h1⟩
theorem PlacesI.mapped {b n : Nat} {f : Nat → Option Nat} (h : PlacesI w b n f) : ∃ es clock, w.heap[b]? = some (Obj.map es clock) := by
  obtain ⟨E, ⟨es, clock, h1, h2⟩, h3⟩ := h
  exact ⟨es, clock, h1⟩
theorem own_frame {base e size n : Nat} {v : Value} {xs : List Value} (h : w.ownsRow base e size v n xs) (hb : ∀ k cs, v.ownBlock = some k → w.heap[k]? = some (Obj.cells cs e (0, 0)) → w'.heap[k]? = some (Obj.cells cs e (0, 0))) : w'.ownsRow base e size v n xs := by
  refine ⟨h.1, ?_⟩
  rcases h.2 with hn | ⟨g, cap, cur, rfl, h1, hgg, rest⟩
  · exact .inl hn
  · exact .inr ⟨g, cap, cur, rfl, h1, hb g cur rfl hgg, rest⟩
theorem own_ty {base e size n : Nat} {v : Value} {xs : List Value} (h : w.ownsRow base e size v n xs) {k : Nat} (hk : v.ownBlock = some k) : ∃ cs, w.heap[k]? = some (Obj.cells cs e (0, 0)) ∧ base ≤ k := by
  rcases h.2 with ⟨rfl, _⟩ | ⟨g, cap, cur, rfl, h1, hgg, rest⟩
  · simp [Value.ownBlock] at hk
  · have : g = k := by simpa [Value.ownBlock] using hk
    subst this
    exact ⟨cur, hgg, h1⟩
/-- whatever leaves the table's own blocks as they are -/
theorem StV.frame (h : StV S U D vv w)
    (hT : ∀ cs, w.heap[S.T]? = some (Obj.cells cs 75 (0, 0)) → w'.heap[S.T]? = some (Obj.cells cs 75 (0, 0)))
    (hm : ∀ (k : Nat) es c, w.heap[k]? = some (Obj.map es c) → w'.heap[k]? = some (Obj.map es c))
    (hp : ∀ (k : Nat) cs, w.heap[k]? = some (Obj.cells cs 33 (0, 0)) → w'.heap[k]? = some (Obj.cells cs 33 (0, 0)))
    (hv : ∀ (k : Nat) cs, vv.ownBlock = some k → w.heap[k]? = some (Obj.cells cs 9 (0, 0)) → w'.heap[k]? = some (Obj.cells cs 9 (0, 0)))
    (hg : w'.heap[0]? = w.heap[0]?) : StV S U D vv w' := by
  refine ⟨hT _ h.tab, own_frame h.props fun k cs _ => hp k cs, places_frame h.number ?_, placesI_frame h.done ?_, own_frame h.vals hv, h.ne, h.low, ?_, h.mxB⟩
  · obtain ⟨es, c, h1⟩ := h.number.mapped; rw [hm _ _ _ h1, h1]
  · obtain ⟨es, c, h1⟩ := h.done.mapped; rw [hm _ _ _ h1, h1]
  · have := h.mx
    unfold World.cell? at this ⊢
    rw [hg]; exact this
theorem StV.below (h : StV S U D vv w) (hb : Below w.heap.size w w') : StV S U D vv w' := by
  have hh : ∀ {k : Nat} {o : Obj}, w.heap[k]? = some o → w'.heap[k]? = some o := fun {k o} hk => (hb.block k (Array.getElem?_eq_some_iff.1 hk).1).trans hk
  refine h.frame (fun _ => hh) (fun _ _ _ => hh) (fun _ _ => hh) (fun _ _ _ => hh) (hb.block _ ?_)
  exact World.block_lt_of_cell? w _ h.mx
theorem St.below (h : St S U D X w) (hb : Below w.heap.size w w') : St S U D X w' := by
  obtain ⟨vv, h1, h2⟩ := h
  exact ⟨vv, h1.below hb, fun k hk => ⟨Nat.lt_of_lt_of_le (h2 k hk).1 hb.size, (h2 k hk).2⟩⟩
theorem Wy.below (h : Wy S X way vw w) (hb : Below w.heap.size w w') : Wy S X way vw w' := ⟨own_mvd8 h.1 hb, h.2⟩
theorem St.mono (h : St S U D X w) (hXY : ∀ k, Y k → X k) : St S U D Y w := by
  obtain ⟨vv, h1, h2⟩ := h
  exact ⟨vv, h1, fun k hk => h2 k (hXY k hk)⟩
theorem Wy.mono (h : Wy S X way vw w) (hXY : ∀ k, Y k → X k) : Wy S Y way vw w := ⟨h.1, fun k hk => h.2 k (hXY k hk)⟩
/-- a new block joins those that are left alone -/
theorem StV.olds (h : StV S U D vv w) : S.T < w.heap.size ∧ S.Dn < w.heap.size ∧ ∀ k, vv.ownBlock = some k → k < w.heap.size := by
  refine ⟨(Array.getElem?_eq_some_iff.1 h.tab).1, h.done.lt, fun k hk => ?_⟩
  obtain ⟨cs, h1, _⟩ := own_ty h.vals hk
  exact (Array.getElem?_eq_some_iff.1 h1).1
theorem St.join (h : St S U D X w) (hb : Below w.heap.size w w') {O : Nat} (hO : w.heap.size ≤ O) (hO' : O < w'.heap.size) : St S U D (fun k => X k ∨ k = O) w' := by
  obtain ⟨vv, h1, h2⟩ := h
  have ho := h1.olds
  refine ⟨vv, h1.below hb, fun k hk => ?_⟩
  rcases hk with hk | rfl
  · exact ⟨Nat.lt_of_lt_of_le (h2 k hk).1 hb.size, (h2 k hk).2⟩
  · exact ⟨hO', by omega, by omega, fun e => by have := ho.2.2 _ e; omega⟩
theorem Wy.join (h : Wy S X way vw w) (hb : Below w.heap.size w w') {O : Nat} (hO : w.heap.size ≤ O) : Wy S (fun k => X k ∨ k = O) way vw w' := by
  refine ⟨own_mvd8 h.1 hb, fun k hk e => ?_⟩
  rcases hk with hk | rfl
  · exact h.2 k hk e
  · obtain ⟨cs, h1, _⟩ := own_ty h.1 e
    have := (Array.getElem?_eq_some_iff.1 h1).1
    omega
/-- a builder of one's own is written -/
theorem StV.others {b : Nat} (h : StV S U D vv w) (ho : Lib.OthersKept 5 (some b) w w') (hb : Below B w w') (hB : S.B ≤ B) (hbt : ∃ cs, w.heap[b]? = some (Obj.cells cs 92 (0, 0))) : StV S U D vv w' := by
  obtain ⟨cb, hcb⟩ := hbt
  have hh : ∀ {k : Nat} {o : Obj}, w.heap[k]? = some o → (∀ cs fz, o ≠ .cells cs 92 fz) → (∀ cs fz, o ≠ .cells cs 5 fz) → w'.heap[k]? = some o := fun {k o} hk h1 h2 => ho k o hk (fun e => by
    cases e
    rw [hcb] at hk
    cases hk
    exact h1 _ _ rfl) h2
  refine h.frame (fun _ h => hh h (by intro _ _ e; cases e) (by intro _ _ e; cases e)) (fun _ _ _ h => hh h (by intro _ _ e; cases e) (by intro _ _ e; cases e)) (fun _ _ h => hh h (by intro _ _ e; cases e) (by intro _ _ e; cases e)) (fun _ _ _ h => hh h (by intro _ _ e; cases e) (by intro _ _ e; cases e)) (hb.block _ ?_)
  have := h.mxB
  omega
theorem bld_ty {B b : Nat} {l : List UInt8} (h : Bld B b l w) : ∃ cs, w.heap[b]? = some (Obj.cells cs 92 (0, 0)) := by
  rcases h with h | h
  · obtain ⟨_, v, h1, _⟩ := h; exact ⟨_, h1⟩
  · obtain ⟨_, v, h1, _⟩ := h; exact ⟨_, h1⟩
theorem St.others {b : Nat} (h : St S U D X w) (ho : Lib.OthersKept 5 (some b) w w') (hb : Below B w w') (hB : S.B ≤ B) (hbt : ∃ cs, w.heap[b]? = some (Obj.cells cs 92 (0, 0))) : St S U D X w' := by
  obtain ⟨vv, h1, h2⟩ := h
  exact ⟨vv, h1.others ho hb hB hbt, fun k hk => ⟨Nat.lt_of_lt_of_le (h2 k hk).1 hb.size, (h2 k hk).2⟩⟩
theorem Wy.others {b : Nat} (h : Wy S X way vw w) (ho : Lib.OthersKept 5 (some b) w w') (hbt : ∃ cs, w.heap[b]? = some (Obj.cells cs 92 (0, 0))) : Wy S X way vw w' := by
  obtain ⟨cb, hcb⟩ := hbt
  refine ⟨own_frame h.1 fun k cs _ hk => ho k _ hk (fun e => ?_) (fun _ _ e => by cases e), h.2⟩
  cases e
  rw [hcb] at hk
  cases hk
/-- a builder through what a table's value turns -/
theorem Bld.through {B b : Nat} {l : List UInt8} (h : Bld B b l w) (hk : Kp S X w w') : Bld B b l w' := by
  have hg : ∀ {p : Value} {bs : List Value}, Lib.BuilderAt 92 5 B b p bs w → Lib.BuilderAt 92 5 B b p bs w' := fun {p bs} h => by
    obtain ⟨h0, v, h1, h2, h3⟩ := h
    exact ⟨h0, v, hk.ty _ _ _ _ h1 (by decide) (by decide) (by decide), own_frame h2 (fun k cs _ hc => hk.ty _ _ _ _ hc (by decide) (by decide) (by decide)), h3⟩
  exact h.elim (fun h => .inl (hg h)) (fun h => .inr (hg h))
end
/-- what value and put come to -/
def ValP (S : Tb) (U : List Pp) (X : Nat → Prop) (way : List Nat) (vw : Value) (x : Xp) (w : World) (e : Ending) (w' : World) : Prop :=
  St S U x.D X w' ∧ Wy S X way vw w' ∧ Kp S X w w' ∧ match x with
  | .ok v _ => e = .returned (.string (str v))
  | .bad er n _ => e = bad8 er n
end Go.Proofs.Ythfholnnkdoagaa
