/-
  Layer 16: the checker in memory. Own work.
-/
import Derived.Test.YtmiiclhhenepiaaMp16
import Derived.Test.YtmiiclhhenepiaaWat16
namespace Go.Proofs.Ytmiiclhhenepiaa
set_option linter.unusedVariables false
set_option linter.unusedSimpArgs false
open Go.RowKit Go.WideElems Go.MapKept

/-- whose a block is -/
inductive Tg
  | free | top | num | tak | wat | lst | trl
  | row (x : Nat)
  | cl (n : Nat)
def cv (x : Nat) : Value := .int .i64 (x : Int)
/-- what the checker holds -/
structure St where
  vs : List Nat
  list : List (List Nat)
  wat : Nat → List Nat
  trail : List Nat
  head : Nat
  broken : Bool
  tk : Nat → Bool
/-- where it lies -/
structure Mm where
  K : Nat
  bN : Nat
  bT : Nat
  bW : Nat
  lv : List Value
  vl : Value
  vt : Value
  rw : Nat → Value
  tag : Nat → Tg
def Mm.cells (M : Mm) (S : St) : Array Value := #[.map (some M.bN), .map (some M.bT), .map (some M.bW), M.vl, M.vt, .int .i64 (S.head : Int), .bool S.broken]
structure KS (w : World) (n0 : Nat) (M : Mm) (S : St) (ex : Tg → Prop) : Prop where
  top : ¬ ex .top → w.heap[M.K]? = some (.cells (M.cells S) 52 (0, 0))
  num : ¬ ex .num → NumM w M.bN S.vs
  tak : ¬ ex .tak → SetM w M.bT (2 * S.vs.length) S.tk
  wat : ¬ ex .wat → SliM w M.bW (2 * S.vs.length) M.rw
  lst : ¬ ex .lst → w.ownsRow n0 31 1 M.vl S.list.length M.lv
  trl : ¬ ex .trl → w.ownsRow n0 3 1 M.vt S.trail.length (S.trail.map cv)
  cls : ∀ n c, S.list[n]? = some c → ¬ ex (.cl n) → ∃ v, M.lv[n]? = some v ∧ w.ownsRow n0 3 1 v c.length (c.map cv)
  row : ∀ x, ¬ ex (.row x) → w.ownsRow n0 3 1 (M.rw x) (S.wat x).length ((S.wat x).map cv)
  tK : M.tag M.K = .top
  tN : M.tag M.bN = .num
  tT : M.tag M.bT = .tak
  tW : M.tag M.bW = .wat
  tl : ∀ b, M.vl.ownBlock = some b → M.tag b = .lst
  tt : ∀ b, M.vt.ownBlock = some b → M.tag b = .trl
  tc : ∀ n v b, M.lv[n]? = some v → v.ownBlock = some b → M.tag b = .cl n
  tr : ∀ x b, (M.rw x).ownBlock = some b → M.tag b = .row x
  fresh : ∀ b, w.heap.size ≤ b → M.tag b = .free
  lo : ∀ b, b < n0 → M.tag b = .free
  base : n0 ≤ w.heap.size
  len : M.lv.length = S.list.length
def noT : Tg → Prop := fun _ => False
section
variable {w w' : World} {n0 : Nat} {M : Mm} {S : St} {ex ex' : Tg → Prop} {row : Option Nat}
theorem KS.lt (h : KS w n0 M S ex) {b : Nat} (hb : M.tag b ≠ .free) : n0 ≤ b ∧ b < w.heap.size := by
  constructor
  · by_cases hl : b < n0
    · exact absurd (h.lo b hl) hb
    · omega
  · by_cases hl : w.heap.size ≤ b
    · exact absurd (h.fresh b hl) hb
    · omega
/-- what was written into is left out -/
theorem KS.keep (h : KS w n0 M S ex) (hg : w.grownBy w' row) (hx : ∀ t, t ≠ .free → (ex t ∨ ∃ b, row = some b ∧ M.tag b = t) → ex' t) : KS w' n0 M S ex' := by
  have hn : ∀ t b, t ≠ .free → ¬ ex' t → M.tag b = t → ¬ ex t ∧ some b ≠ row := fun t b h0 h1 h2 => ⟨fun h3 => h1 (hx t h0 (.inl h3)), fun h3 => h1 (hx t h0 (.inr ⟨b, h3.symm, h2⟩))⟩
  have hv : ∀ t (v : Value), t ≠ .free → ¬ ex' t → (∀ b, v.ownBlock = some b → M.tag b = t) → v.ownBlock = none ∨ v.ownBlock ≠ row := fun t v h0 h1 h2 => by
    cases hb : v.ownBlock with
    | none => exact .inl rfl
    | some b => exact .inr (hn t b h0 h1 (h2 b hb)).2
  refine ⟨fun e => ?_, fun e => ?_, fun e => ?_, fun e => ?_, fun e => ?_, fun e => ?_, fun n c hc e => ?_, fun x e => ?_, h.tK, h.tN, h.tT, h.tW, h.tl, h.tt, h.tc, h.tr, fun b hb => h.fresh b (Nat.le_trans hg.size hb), h.lo, Nat.le_trans h.base hg.size, h.len⟩
  · obtain ⟨h1, h2⟩ := hn .top M.K (by simp) e h.tK
    exact (hg.block M.K (Array.getElem?_eq_some_iff.1 (h.top h1)).1 h2).trans (h.top h1)
  · obtain ⟨h1, h2⟩ := hn .num M.bN (by simp) e h.tN
    exact (h.num h1).kept hg h2
  · obtain ⟨h1, h2⟩ := hn .tak M.bT (by simp) e h.tT
    exact (h.tak h1).kept hg h2
  · obtain ⟨h1, h2⟩ := hn .wat M.bW (by simp) e h.tW
    exact (h.wat h1).kept hg h2
  · exact (h.lst (fun h3 => e (hx _ (by simp) (.inl h3)))).kept hg (hv .lst _ (by simp) e h.tl)
  · exact (h.trl (fun h3 => e (hx _ (by simp) (.inl h3)))).kept hg (hv .trl _ (by simp) e h.tt)
  · obtain ⟨v, h1, h2⟩ := h.cls n c hc (fun h3 => e (hx _ (by simp) (.inl h3)))
    exact ⟨v, h1, h2.kept hg (hv (.cl n) v (by simp) e (fun b hb => h.tc n v b h1 hb))⟩
  · exact (h.row x (fun h3 => e (hx _ (by simp) (.inl h3)))).kept hg (hv (.row x) _ (by simp) e (h.tr x))
theorem KS.keep0 (h : KS w n0 M S ex) (hg : w.grownBy w' none) : KS w' n0 M S ex :=
  h.keep hg (fun t _ h => h.elim id (fun ⟨b, h, _⟩ => by cases h))
theorem KS.drew (h : KS w n0 M S ex) : KS w.drew n0 M S ex := h.keep0 ⟨rfl, rfl, rfl, Nat.le_refl _, fun _ _ _ => rfl⟩
theorem KS.less (h : KS w n0 M S ex) (hx : ∀ t, ex t → ex' t) : KS w n0 M S ex' :=
  h.keep (row := none) (World.grownBy.refl _ _) (fun t _ h => h.elim (hx t) (fun ⟨b, h, _⟩ => by cases h))
/-- a free block is somebody's -/
def tagAt (f : Nat → Tg) (X : Nat) (t : Tg) : Nat → Tg := fun b => if b = X then t else f b
theorem KS.retag (h : KS w n0 M S ex) {X : Nat} {t : Tg} (hX : M.tag X = .free) (h1 : n0 ≤ X) (h2 : X < w.heap.size) : KS w n0 { M with tag := tagAt M.tag X t } S ex := by
  have e : ∀ b u, u ≠ .free → M.tag b = u → tagAt M.tag X t b = u := fun b u hu hb => by
    unfold tagAt
    rw [if_neg (fun e => by rw [e, hX] at hb; exact hu hb.symm)]
    exact hb
  refine ⟨h.top, h.num, h.tak, h.wat, h.lst, h.trl, h.cls, h.row, e _ _ (by simp) h.tK, e _ _ (by simp) h.tN, e _ _ (by simp) h.tT, e _ _ (by simp) h.tW, fun b hb => e _ _ (by simp) (h.tl b hb), fun b hb => e _ _ (by simp) (h.tt b hb), fun n v b hv hb => e _ _ (by simp) (h.tc n v b hv hb), fun x b hb => e _ _ (by simp) (h.tr x b hb), fun b hb => ?_, fun b hb => ?_, h.base, h.len⟩
  · show tagAt M.tag X t b = .free
    unfold tagAt
    rw [if_neg (by omega)]
    exact h.fresh b hb
  · show tagAt M.tag X t b = .free
    unfold tagAt
    rw [if_neg (by omega)]
    exact h.lo b hb
/-- what is the same from w to w' : all blocks but those of ts -/
structure Frm (M M' : Mm) (ts : Tg → Prop) (w w' : World) : Prop where
  os : w'.os = w.os
  tape : w'.tape = w.tape
  output : w'.output = w.output
  size : w.heap.size ≤ w'.heap.size
  block : ∀ b, b < w.heap.size → ¬ ts (M.tag b) → w'.heap[b]? = w.heap[b]?
  tags : ∀ b, b < w.heap.size → M'.tag b = M.tag b
  K : M'.K = M.K
  bN : M'.bN = M.bN
  bT : M'.bT = M.bT
  bW : M'.bW = M.bW
variable {M' M'' : Mm} {ts us : Tg → Prop} {w'' : World}
theorem Frm.refl (M : Mm) (ts : Tg → Prop) (w : World) : Frm M M ts w w := ⟨rfl, rfl, rfl, Nat.le_refl _, fun _ _ _ => rfl, fun _ _ => rfl, rfl, rfl, rfl, rfl⟩
theorem Frm.trans (h : Frm M M' ts w w') (k : Frm M' M'' ts w' w'') : Frm M M'' ts w w'' :=
  ⟨k.os.trans h.os, k.tape.trans h.tape, k.output.trans h.output, Nat.le_trans h.size k.size, fun b hb hn => (k.block b (Nat.lt_of_lt_of_le hb h.size) (by rw [h.tags b hb]; exact hn)).trans (h.block b hb hn),
    fun b hb => (k.tags b (Nat.lt_of_lt_of_le hb h.size)).trans (h.tags b hb), k.K.trans h.K, k.bN.trans h.bN, k.bT.trans h.bT, k.bW.trans h.bW⟩
theorem Frm.mono (h : Frm M M' ts w w') (hs : ∀ t, ts t → us t) : Frm M M' us w w' :=
  ⟨h.os, h.tape, h.output, h.size, fun b hb hn => h.block b hb (fun e => hn (hs _ e)), h.tags, h.K, h.bN, h.bT, h.bW⟩
theorem Frm.below (h : Frm M M' ts w w') (hs : ¬ ts .free) (hk : KS w n0 M S ex) : Below n0 w w' :=
  ⟨h.os, h.tape, h.output, h.size, fun b hb => h.block b (Nat.lt_of_lt_of_le hb hk.base) (by rw [hk.lo b hb]; exact hs)⟩
theorem Frm.of (hg : w.grownBy w' row) (hr : ∀ b, row = some b → ts (M.tag b)) : Frm M M ts w w' :=
  ⟨hg.os, hg.tape, hg.output, hg.size, fun b hb hn => hg.block b hb (fun e => hn (hr b e.symm)), fun _ _ => rfl, rfl, rfl, rfl, rfl⟩
/-- a row that is left out stays -/
theorem Frm.own (h : Frm M M' ts w w') {base : Nat} {e : TypeId} {size : Nat} {v : Value} {n : Nat} {xs : List Value} (ho : w.ownsRow base e size v n xs) (hv : ∀ b, v.ownBlock = some b → ¬ ts (M.tag b)) : w'.ownsRow base e size v n xs := by
  refine ⟨ho.1, ?_⟩
  rcases ho.2 with hn | ⟨g, cap, cur, rfl, hb, hg, rest⟩
  · exact .inl hn
  · exact .inr ⟨g, cap, cur, rfl, hb, (h.block g (Array.getElem?_eq_some_iff.1 hg).1 (hv g rfl)).trans hg, rest⟩
/-! what is written -/
theorem grown_set (w : World) (a : Addr) (u : Value) : w.grownBy (w.setCell a u) (some a.block) := ⟨rfl, rfl, rfl, by simp, fun k _ hk => heap_setCell_other w a k u (fun e => hk (by simp [e]))⟩
theorem own_set {base : Nat} {e : TypeId} {size : Nat} {v u : Value} {n : Nat} {xs : List Value} {a : Addr} (ho : w.ownsRow base e size v n xs) (hv : ∀ b, v.ownBlock = some b → b ≠ a.block) : (w.setCell a u).ownsRow base e size v n xs := by
  refine ho.kept (grown_set w a u) ?_
  cases hb : v.ownBlock with
  | none => exact .inl rfl
  | some b => exact .inr (fun e => hv b hb (Option.some.inj e))
def orT (ex : Tg → Prop) (t : Tg) : Tg → Prop := fun s => ex s ∨ s = t
def noTg (ex : Tg → Prop) (t : Tg) : Tg → Prop := fun s => ex s ∧ s ≠ t
theorem KS.setTop (h : KS w n0 M S ex) (i : Nat) (u : Value) : KS (w.setCell ⟨M.K, i, none⟩ u) n0 M S (orT ex .top) :=
  h.keep (grown_set w _ u) (fun t _ hx => hx.elim .inl (fun ⟨b, hb, ht⟩ => .inr (by rw [← ht, ← Option.some.inj hb, h.tK])))
theorem KS.setTop2 (h : KS w n0 M S ex) (hx : ¬ ex .top) (i : Nat) (u : Value) : (w.setCell ⟨M.K, i, none⟩ u).heap[M.K]? = some (.cells ((M.cells S).setIfInBounds i u) 52 (0, 0)) :=
  heap_setCell_same w M.K i _ _ u (h.top hx)
theorem KS.head (h : KS w n0 M S ex) (hx : ¬ ex .top) (k : Nat) : KS (w.setCell ⟨M.K, 5, none⟩ (.int .i64 (k : Int))) n0 M { S with head := k } ex := by
  have h1 := h.setTop 5 (.int .i64 (k : Int))
  have e : ∀ t, t ≠ .top → ¬ ex t → ¬ orT ex .top t := fun t h1 h2 h3 => h3.elim h2 h1
  exact ⟨fun _ => h.setTop2 hx 5 _, fun x => h1.num (e _ (by simp) x), fun x => h1.tak (e _ (by simp) x), fun x => h1.wat (e _ (by simp) x), fun x => h1.lst (e _ (by simp) x), fun x => h1.trl (e _ (by simp) x), fun n c hc x => h1.cls n c hc (e _ (by simp) x), fun n x => h1.row n (e _ (by simp) x),
    h1.tK, h1.tN, h1.tT, h1.tW, h1.tl, h1.tt, h1.tc, h1.tr, h1.fresh, h1.lo, h1.base, h1.len⟩
theorem KS.brk (h : KS w n0 M S ex) (hx : ¬ ex .top) (k : Bool) : KS (w.setCell ⟨M.K, 6, none⟩ (.bool k)) n0 M { S with broken := k } ex := by
  have h1 := h.setTop 6 (.bool k)
  have e : ∀ t, t ≠ .top → ¬ ex t → ¬ orT ex .top t := fun t h1 h2 h3 => h3.elim h2 h1
  exact ⟨fun _ => h.setTop2 hx 6 _, fun x => h1.num (e _ (by simp) x), fun x => h1.tak (e _ (by simp) x), fun x => h1.wat (e _ (by simp) x), fun x => h1.lst (e _ (by simp) x), fun x => h1.trl (e _ (by simp) x), fun n c hc x => h1.cls n c hc (e _ (by simp) x), fun n x => h1.row n (e _ (by simp) x),
    h1.tK, h1.tN, h1.tT, h1.tW, h1.tl, h1.tt, h1.tc, h1.tr, h1.fresh, h1.lo, h1.base, h1.len⟩
theorem KS.trail (h : KS w n0 M S ex) (hx : ¬ ex .top) {v' : Value} {tr : List Nat} (ho : w.ownsRow n0 3 1 v' tr.length (tr.map cv)) (ht : ∀ b, v'.ownBlock = some b → M.tag b = .trl) :
    KS (w.setCell ⟨M.K, 4, none⟩ v') n0 { M with vt := v' } { S with trail := tr } (noTg ex .trl) := by
  have h1 := h.setTop 4 v'
  have e : ∀ t, t ≠ .trl → t ≠ .top → ¬ noTg ex .trl t → ¬ orT ex .top t := fun t h0 h1 h2 h3 => h3.elim (fun h => h2 ⟨h, h0⟩) h1
  have hb : ∀ b, v'.ownBlock = some b → b ≠ M.K := fun b hb e => by have := ht b hb; rw [e, h.tK] at this; cases this
  exact ⟨fun _ => h.setTop2 hx 4 _, fun x => h1.num (e _ (by simp) (by simp) x), fun x => h1.tak (e _ (by simp) (by simp) x), fun x => h1.wat (e _ (by simp) (by simp) x), fun x => h1.lst (e _ (by simp) (by simp) x), fun _ => own_set ho hb, fun n c hc x => h1.cls n c hc (e _ (by simp) (by simp) x), fun n x => h1.row n (e _ (by simp) (by simp) x),
    h1.tK, h1.tN, h1.tT, h1.tW, h1.tl, ht, h1.tc, h1.tr, h1.fresh, h1.lo, h1.base, h1.len⟩
theorem get_snoc {α : Type} {l : List α} {a x : α} {n : Nat} (h : (l ++ [a])[n]? = some x) : l[n]? = some x ∨ (n = l.length ∧ x = a) := by
  by_cases hn : n < l.length
  · rw [List.getElem?_append_left hn] at h; exact .inl h
  · rw [List.getElem?_append_right (by omega)] at h
    have := (List.getElem?_eq_some_iff.1 h).1
    simp at this
    have h0 : n - l.length = 0 := by omega
    rw [h0] at h
    simp at h
    exact .inr ⟨by omega, h.symm⟩
theorem KS.more (h : KS w n0 M S ex) (hx : ¬ ex .top) {v' vc : Value} {c : List Nat} (ho : w.ownsRow n0 31 1 v' (S.list.length + 1) (M.lv ++ [vc])) (ht : ∀ b, v'.ownBlock = some b → M.tag b = .lst)
    (hc : w.ownsRow n0 3 1 vc c.length (c.map cv)) (hct : ∀ b, vc.ownBlock = some b → M.tag b = .cl S.list.length) :
    KS (w.setCell ⟨M.K, 3, none⟩ v') n0 { M with vl := v', lv := M.lv ++ [vc] } { S with list := S.list ++ [c] } (noTg ex .lst) := by
  have h1 := h.setTop 3 v'
  have e : ∀ t, t ≠ .lst → t ≠ .top → ¬ noTg ex .lst t → ¬ orT ex .top t := fun t h0 h1 h2 h3 => h3.elim (fun h => h2 ⟨h, h0⟩) h1
  have hb : ∀ b, v'.ownBlock = some b → b ≠ M.K := fun b hb e => by have := ht b hb; rw [e, h.tK] at this; cases this
  have hb2 : ∀ b, vc.ownBlock = some b → b ≠ M.K := fun b hb e => by have := hct b hb; rw [e, h.tK] at this; cases this
  refine ⟨fun _ => h.setTop2 hx 3 _, fun x => h1.num (e _ (by simp) (by simp) x), fun x => h1.tak (e _ (by simp) (by simp) x), fun x => h1.wat (e _ (by simp) (by simp) x), fun _ => ?_, fun x => h1.trl (e _ (by simp) (by simp) x), fun n d hd x => ?_, fun n x => h1.row n (e _ (by simp) (by simp) x),
    h1.tK, h1.tN, h1.tT, h1.tW, ht, h1.tt, fun n v b hv hb => ?_, h1.tr, h1.fresh, h1.lo, h1.base, ?_⟩
  · have := own_set (a := ⟨M.K, 3, none⟩) (u := v') ho hb
    simpa using this
  · rcases get_snoc hd with hd | ⟨rfl, rfl⟩
    · obtain ⟨v, k1, k2⟩ := h1.cls n d hd (e _ (by simp) (by simp) x)
      exact ⟨v, by show (M.lv ++ [vc])[n]? = some v; rw [List.getElem?_append_left (List.getElem?_eq_some_iff.1 k1).1]; exact k1, k2⟩
    · refine ⟨vc, by show (M.lv ++ [vc])[S.list.length]? = some vc; rw [← h.len, List.getElem?_append_right (by omega)]; simp, own_set hc hb2⟩
  · rcases get_snoc hv with hv | ⟨rfl, rfl⟩
    · exact h1.tc n v b hv hb
    · rw [h.len]; exact hct b hb
  · simp [h.len]
/-! what was left out is there again -/
theorem KS.fillTak (h : KS w n0 M S ex) {T : Nat → Bool} (ht : SetM w M.bT (2 * S.vs.length) T) : KS w n0 M { S with tk := T } (noTg ex .tak) := by
  have e : ∀ t, t ≠ .tak → ¬ noTg ex .tak t → ¬ ex t := fun t h0 h1 h2 => h1 ⟨h2, h0⟩
  exact ⟨fun x => h.top (e _ (by simp) x), fun x => h.num (e _ (by simp) x), fun _ => ht, fun x => h.wat (e _ (by simp) x), fun x => h.lst (e _ (by simp) x), fun x => h.trl (e _ (by simp) x), fun n c hc x => h.cls n c hc (e _ (by simp) x), fun n x => h.row n (e _ (by simp) x),
    h.tK, h.tN, h.tT, h.tW, h.tl, h.tt, h.tc, h.tr, h.fresh, h.lo, h.base, h.len⟩
theorem KS.fillNum (h : KS w n0 M S ex) {vs : List Nat} (hl : S.vs.length ≤ vs.length) (ht : NumM w M.bN vs) : KS w n0 M { S with vs := vs } (noTg ex .num) := by
  have e : ∀ t, t ≠ .num → ¬ noTg ex .num t → ¬ ex t := fun t h0 h1 h2 => h1 ⟨h2, h0⟩
  have hl2 : 2 * S.vs.length ≤ 2 * vs.length := by omega
  exact ⟨fun x => h.top (e _ (by simp) x), fun _ => ht, fun x => (h.tak (e _ (by simp) x)).mono hl2, fun x => (h.wat (e _ (by simp) x)).mono hl2, fun x => h.lst (e _ (by simp) x), fun x => h.trl (e _ (by simp) x), fun n c hc x => h.cls n c hc (e _ (by simp) x), fun n x => h.row n (e _ (by simp) x),
    h.tK, h.tN, h.tT, h.tW, h.tl, h.tt, h.tc, h.tr, h.fresh, h.lo, h.base, h.len⟩
def putW (f : Nat → List Nat) (x : Nat) (l : List Nat) : Nat → List Nat := fun q => if x = q then l else f q
theorem KS.fillWat (h : KS w n0 M S ex) {x : Nat} {v : Value} {l : List Nat} (ht : SliM w M.bW (2 * S.vs.length) (putR M.rw x v)) (ho : w.ownsRow n0 3 1 v l.length (l.map cv)) (hv : ∀ b, v.ownBlock = some b → M.tag b = .row x) :
    KS w n0 { M with rw := putR M.rw x v } { S with wat := putW S.wat x l } (noTg (noTg ex .wat) (.row x)) := by
  have e : ∀ t, t ≠ .wat → t ≠ .row x → ¬ noTg (noTg ex .wat) (.row x) t → ¬ ex t := fun t h0 h3 h1 h2 => h1 ⟨⟨h2, h0⟩, h3⟩
  refine ⟨fun y => h.top (e _ (by simp) (by simp) y), fun y => h.num (e _ (by simp) (by simp) y), fun y => h.tak (e _ (by simp) (by simp) y), fun _ => ht, fun y => h.lst (e _ (by simp) (by simp) y), fun y => h.trl (e _ (by simp) (by simp) y), fun n c hc y => h.cls n c hc (e _ (by simp) (by simp) y), fun n y => ?_,
    h.tK, h.tN, h.tT, h.tW, h.tl, h.tt, h.tc, fun n b hb => ?_, h.fresh, h.lo, h.base, h.len⟩
  · show w.ownsRow n0 _ 1 (putR M.rw x v n) (putW S.wat x l n).length ((putW S.wat x l n).map cv)
    unfold putR putW
    by_cases hn : x = n
    · rw [if_pos hn, if_pos hn]; exact ho
    · rw [if_neg hn, if_neg hn]
      exact h.row n (e _ (by simp) (by simp only [ne_eq, Tg.row.injEq]; exact fun h => hn h.symm) y)
  · have hb2 : (putR M.rw x v n).ownBlock = some b := hb
    unfold putR at hb2
    by_cases hn : x = n
    · rw [if_pos hn] at hb2; rw [← hn]; exact hv b hb2
    · rw [if_neg hn] at hb2; exact h.tr n b hb2
theorem KS.fillCl (h : KS w n0 M S ex) {n : Nat} {c d : List Nat} {v : Value} (hc : S.list[n]? = some c) (hv : M.lv[n]? = some v) (ho : w.ownsRow n0 3 1 v d.length (d.map cv)) : KS w n0 M { S with list := S.list.set n d } (noTg ex (.cl n)) := by
  have e : ∀ t, t ≠ .cl n → ¬ noTg ex (.cl n) t → ¬ ex t := fun t h0 h1 h2 => h1 ⟨h2, h0⟩
  refine ⟨fun x => h.top (e _ (by simp) x), fun x => h.num (e _ (by simp) x), fun x => h.tak (e _ (by simp) x), fun x => h.wat (e _ (by simp) x), fun x => by simpa using h.lst (e _ (by simp) x), fun x => h.trl (e _ (by simp) x), fun m c' hc' x => ?_, fun n x => h.row n (e _ (by simp) x),
    h.tK, h.tN, h.tT, h.tW, h.tl, h.tt, h.tc, h.tr, h.fresh, h.lo, h.base, by simpa using h.len⟩
  by_cases hm : m = n
  · subst hm
    have hlt := (List.getElem?_eq_some_iff.1 hc).1
    rw [List.getElem?_set_self hlt] at hc'
    cases hc'
    exact ⟨v, hv, ho⟩
  · rw [List.getElem?_set_ne (fun e => hm e.symm)] at hc'
    exact h.cls m c' hc' (e _ (by simp only [ne_eq, Tg.cl.injEq]; exact hm) x)
/-- a row behind an append: whose it is -/
theorem KS.grow (h : KS w n0 M S ex) {v v' : Value} {t : Tg} (ht : t ≠ .free) (hg : w.grownBy w' v.ownBlock) (hv : ∀ b, v.ownBlock = some b → M.tag b = t) (hat : v'.ownBlock = v.ownBlock ∨ ∃ k, v'.ownBlock = some k ∧ w.heap.size ≤ k ∧ k < w'.heap.size) :
    ∃ f, KS w' n0 { M with tag := f } S (orT ex t) ∧ (∀ b, v'.ownBlock = some b → f b = t) ∧ (∀ b, b < w.heap.size → f b = M.tag b) ∧ ∀ b, M.tag b ≠ .free → f b = M.tag b := by
  have h1 : KS w' n0 M S (orT ex t) := h.keep hg (fun s _ hx => hx.elim .inl (fun ⟨b, hb, hs⟩ => .inr (by rw [← hs]; exact hv b hb)))
  rcases hat with hat | ⟨k, hk, hk1, hk2⟩
  · exact ⟨M.tag, h1, fun b hb => hv b (hat ▸ hb), fun _ _ => rfl, fun _ _ => rfl⟩
  · have hf : M.tag k = .free := h.fresh k hk1
    refine ⟨tagAt M.tag k t, h1.retag hf (Nat.le_trans h.base hk1) hk2, fun b hb => ?_, fun b hb => ?_, fun b hb => ?_⟩
    · rw [hk] at hb
      cases hb
      unfold tagAt
      rw [if_pos rfl]
    · unfold tagAt
      rw [if_neg (by omega)]
    · unfold tagAt
      rw [if_neg (fun e => hb (by rw [e, hf]))]
end
end Go.Proofs.Ytmiiclhhenepiaa
