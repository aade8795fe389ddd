/-
  Layer 3: the answer's element. Own work.
-/
import Derived.Test.YtpbkidmdfibaoaaGreatDoorBldB3
import Derived.Test.YtpbkidmdfibaoaaGreatDoorSameN3
import Derived.Test.YtpbkidmdfibaoaaGreatDoorGro3
import Derived.Deep.RegionHeld3
namespace Go.Proofs.YtpbkidmdfibaoaaGreatDoor
set_option linter.unusedVariables false
set_option linter.unusedSimpArgs false


/-! El3 -/
section
open Go.RowKit

theorem emp3 (l : List UInt8) : ((str l).toList == []) = decide (l = []) := by
  rw [ByteArray.toList_eq, toList_str]
  cases l <;> rfl
/-- the Builder in block B: tokens, place, how many, error, where -/
def Br (w : World) (B : Nat) (vL : Value) (i c : Nat) (e o : Int) : Prop := w.heap[B]? = some (.cells #[vL, .int .i64 (i : Int), .int .i64 (c : Int), .int .i64 e, .int .i64 o] 58 (0, 0))
theorem Br.cells {w : World} {B i c : Nat} {vL : Value} {e o : Int} (h : Br w B vL i c e o) : w.cell? ⟨B, 0, none⟩ = some vL ∧ w.cell? ⟨B, 1, none⟩ = some (.int .i64 (i : Int)) ∧ w.cell? ⟨B, 2, none⟩ = some (.int .i64 (c : Int)) ∧ w.cell? ⟨B, 3, none⟩ = some (.int .i64 e) ∧ w.cell? ⟨B, 4, none⟩ = some (.int .i64 o) :=
  ⟨by rw [cell_of_row w B 0 _ _ (0, 0) h]; rfl, by rw [cell_of_row w B 1 _ _ (0, 0) h]; rfl, by rw [cell_of_row w B 2 _ _ (0, 0) h]; rfl, by rw [cell_of_row w B 3 _ _ (0, 0) h]; rfl, by rw [cell_of_row w B 4 _ _ (0, 0) h]; rfl⟩
theorem Br.frozen {w : World} {B i c : Nat} {vL : Value} {e o : Int} (h : Br w B vL i c e o) (j : Nat) : w.frozen? ⟨B, j, none⟩ = false := frozen_of_row w B j _ _ h
theorem Br.lt {w : World} {B i c : Nat} {vL : Value} {e o : Int} (h : Br w B vL i c e o) : B < w.heap.size := (Array.getElem?_eq_some_iff.1 h).1
theorem Br.setI {w : World} {B i c : Nat} {vL : Value} {e o : Int} (h : Br w B vL i c e o) (j : Nat) : Br (w.setCell ⟨B, 1, none⟩ (.int .i64 (j : Int))) B vL j c e o := heap_setCell_same w B 1 _ _ _ h
theorem Br.setC {w : World} {B i c : Nat} {vL : Value} {e o : Int} (h : Br w B vL i c e o) (j : Nat) : Br (w.setCell ⟨B, 2, none⟩ (.int .i64 (j : Int))) B vL i j e o := heap_setCell_same w B 2 _ _ _ h
theorem Br.setE {w : World} {B i c : Nat} {vL : Value} {e o : Int} (h : Br w B vL i c e o) (j : Int) : Br (w.setCell ⟨B, 3, none⟩ (.int .i64 j)) B vL i c j o := heap_setCell_same w B 3 _ _ _ h
theorem Br.setO {w : World} {B i c : Nat} {vL : Value} {e o : Int} (h : Br w B vL i c e o) (j : Int) : Br (w.setCell ⟨B, 4, none⟩ (.int .i64 j)) B vL i c e j := heap_setCell_same w B 4 _ _ _ h
/-! worlds where only block B turned -/
section
variable {w w' w2 : World} {B : Nat}
theorem gB_refl (w : World) (B : Nat) : w.grownBy w (some B) := ⟨rfl, rfl, rfl, Nat.le_refl _, fun _ _ _ => rfl⟩
theorem gB_below (hb : Below w.heap.size w w') : w.grownBy w' (some B) := ⟨hb.os, hb.tape, hb.output, hb.size, fun k hk _ => hb.block k hk⟩
theorem gB_trans (h : w.grownBy w' (some B)) (h2 : w'.grownBy w2 (some B)) : w.grownBy w2 (some B) :=
  ⟨h2.os.trans h.os, h2.tape.trans h.tape, h2.output.trans h.output, Nat.le_trans h.size h2.size, fun k hk hne => (h2.block k (Nat.lt_of_lt_of_le hk h.size) hne).trans (h.block k hk hne)⟩
theorem gB_set (j : Nat) (v : Value) : w.grownBy (w.setCell ⟨B, j, none⟩ v) (some B) := ⟨rfl, rfl, rfl, by simp, fun k _ hk => heap_setCell_other w ⟨B, j, none⟩ k v (fun e => hk (by simp [e]))⟩
theorem gB_low {s : Nat} {w0 : World} (h0 : Below s w0 w) (hs : s ≤ w.heap.size) (hB : s ≤ B) (h : w.grownBy w' (some B)) : Below s w0 w' := h0.grown h hs (fun q e => by cases e; exact hB)
end
theorem fail3_at {w : World} {B i c : Nat} {vL : Value} {o0 : Int} (h : Br w B vL i c 0 o0) (e o : Int) :
    Calls Tryz.prog 25 #[.pointer (some ⟨B, 0, none⟩), .int .i64 e, .int .i64 o] w fun r w' => r = .returned (.tuple #[]) ∧ Br w' B vL i c e o ∧ w.grownBy w' (some B) := by
  obtain ⟨b0, b1, b2, b3, b4⟩ := h.cells
  have f3 := h.frozen 3
  have HE := Lib.hid (h.setE e)
  have f4 := HE.out.frozen 4
  have e4 := HE.out.cells.2.2.2.2
  have HO := Lib.hid (HE.out.setO o)
  have HG := Lib.hid (show w.grownBy ((w.setCell ⟨B, 3, none⟩ (.int .i64 e)).setCell ⟨B, 4, none⟩ (.int .i64 o)) (some B) from gB_trans (gB_set 3 _) (gB_set 4 _))
  clear h
  go_enter Tryz.func25, Tryz.ntmps25
  go_upto_region 2 with fail
  generalize w.setCell ⟨B, 3, none⟩ (.int .i64 e) = w1 at HE HO HG f4 e4 ⊢
  clear b0 b1 b2 b3 b4 f3
  go_wp2
  go_end0
  exact ⟨rfl, HO.out, HG.out⟩
/-! an element under way -/
structure Lp (w w0 wS : World) (A B N : Nat) (vL : Value) (n : List UInt8) (va vk : Value) (kds : List Kd) (F : Nat → Prop) (i c : Nat) (e o : Int) (wr : World) : Prop where
  g : w.grownBy wr (some B)
  br : Br wr B vL i c e o
  nr : wr.heap[N]? = some (.cells #[.string (str n), va, vk, .string ⟨#[]⟩] 26 (0, 0))
  ow : wr.ownsRow (N + 1) 26 4 vk kds.length (rowN kds)
  kd : ∀ k ∈ kds, NdV wr F k.x k.va k.vk
  fF : ∀ b, F b → b < wr.heap.size ∧ (b < A ∨ N < b) ∧ vk.ownBlock ≠ some b
  kp : ∀ b, w.heap.size ≤ b → b < N → wr.heap[b]? = wS.heap[b]?
  bd : A ≤ B ∧ B < w.heap.size ∧ w.heap.size ≤ N
section
variable {w w0 wS wr w' : World} {A B N : Nat} {vL va vk : Value} {n : List UInt8} {kds : List Kd} {F : Nat → Prop} {i c i' c' : Nat} {e o e' o' : Int}
theorem Lp.move (h : Lp w w0 wS A B N vL n va vk kds F i c e o wr) (hg : wr.grownBy w' (some B)) (hb : Br w' B vL i' c' e' o') : Lp w w0 wS A B N vL n va vk kds F i' c' e' o' w' := by
  obtain ⟨b1, b2, b3⟩ := h.bd
  have hm : Mvd [B] wr w' := Mvd.of_grown hg
  have hNB : N ≠ B := by omega
  refine ⟨gB_trans h.g hg, hb, (hg.block N (Array.getElem?_eq_some_iff.1 h.nr).1 (fun e => hNB (by cases e; rfl))).trans h.nr, own_mvd h.ow hm (fun q hq => ?_), fun k hk => (h.kd k hk).frame (fun b hF => ?_) (fun b hF => hF), fun b hF => ?_, fun b g1 g2 => (hg.block b (by have := (Array.getElem?_eq_some_iff.1 h.nr).1; omega) (fun e => by cases e; omega)).trans (h.kp b g1 g2), h.bd⟩
  · have := (h.ow.lt q hq).1
    simp; omega
  · obtain ⟨f1, f2, f3⟩ := h.fF b hF
    exact hg.block b f1 (fun e => by cases e; omega)
  · obtain ⟨f1, f2, f3⟩ := h.fF b hF
    exact ⟨Nat.lt_of_lt_of_le f1 hg.size, f2, f3⟩
theorem Lp.below (h : Lp w w0 wS A B N vL n va vk kds F i c e o wr) (hb : Below wr.heap.size wr w') : Lp w w0 wS A B N vL n va vk kds F i c e o w' :=
  h.move (gB_below hb) ((hb.block B h.br.lt).trans h.br)
theorem Lp.cells (h : Lp w w0 wS A B N vL n va vk kds F i c e o wr) : wr.cell? ⟨N, 0, none⟩ = some (.string (str n)) ∧ wr.cell? ⟨N, 1, none⟩ = some va ∧ wr.cell? ⟨N, 2, none⟩ = some vk ∧ wr.cell? ⟨N, 3, none⟩ = some (.string ⟨#[]⟩) :=
  ⟨by rw [cell_of_row wr N 0 _ _ (0, 0) h.nr]; rfl, by rw [cell_of_row wr N 1 _ _ (0, 0) h.nr]; rfl, by rw [cell_of_row wr N 2 _ _ (0, 0) h.nr]; rfl, by rw [cell_of_row wr N 3 _ _ (0, 0) h.nr]; rfl⟩
theorem Lp.frozen (h : Lp w w0 wS A B N vL n va vk kds F i c e o wr) (j : Nat) : wr.frozen? ⟨N, j, none⟩ = false := frozen_of_row wr N j _ _ h.nr
/-- one more kid -/
theorem Lp.push {w7 : World} {k : Kd} {Fk : Nat → Prop} {g cap : Nat} (h : Lp w w0 wS A B N vL n va vk kds F i c e o wr) (hk : NdV wr Fk k.x k.va k.vk) (hF : ∀ b, Fk b → b < wr.heap.size ∧ (b < A ∨ N < b) ∧ vk.ownBlock ≠ some b)
    (ho : w7.ownsRow (N + 1) 26 4 (.slice (some ⟨g, 0, none⟩) (kds.length + 1) cap) (kds.length + 1) (rowN kds ++ kdL k)) (hm : Mvd vk.ownBlock.toList wr w7) (hg : vk.ownBlock = some g ∨ wr.heap.size ≤ g) :
    Lp w w0 wS A B N vL n va (.slice (some ⟨g, 0, none⟩) (kds.length + 1) cap) (kds ++ [k]) (fun b => F b ∨ Fk b) i c e o (w7.setCell ⟨N, 2, none⟩ (.slice (some ⟨g, 0, none⟩) (kds.length + 1) cap)) := by
  obtain ⟨b1, b2, b3⟩ := h.bd
  have hown : ∀ q, vk.ownBlock = some q → N + 1 ≤ q := fun q hq => (h.ow.lt q hq).1
  have hNs := (Array.getElem?_eq_some_iff.1 h.nr).1
  have keep : ∀ b, b < wr.heap.size → vk.ownBlock ≠ some b → b ≠ N → (w7.setCell ⟨N, 2, none⟩ (.slice (some ⟨g, 0, none⟩) (kds.length + 1) cap)).heap[b]? = wr.heap[b]? := fun b hb hq hN =>
    (heap_setCell_other w7 ⟨N, 2, none⟩ b _ (fun e => hN e)).trans (hm.block b hb (fun hx => by
      cases hv : vk.ownBlock with
      | none => rw [hv] at hx; cases hx
      | some q => rw [hv] at hx hq; simp at hx; exact hq (by rw [hx])))
  have kF : ∀ b, F b → (w7.setCell ⟨N, 2, none⟩ (.slice (some ⟨g, 0, none⟩) (kds.length + 1) cap)).heap[b]? = wr.heap[b]? := fun b hb => by
    obtain ⟨f1, f2, f3⟩ := h.fF b hb
    exact keep b f1 f3 (by omega)
  have kFk : ∀ b, Fk b → (w7.setCell ⟨N, 2, none⟩ (.slice (some ⟨g, 0, none⟩) (kds.length + 1) cap)).heap[b]? = wr.heap[b]? := fun b hb => by
    obtain ⟨f1, f2, f3⟩ := hF b hb
    exact keep b f1 f3 (by omega)
  refine ⟨?_, ?_, ?_, ?_, ?_, ?_, fun b g1 g2 => (keep b (by omega) (fun hq => by have := hown b hq; omega) (by omega)).trans (h.kp b g1 g2), h.bd⟩
  · have hs := h.g.size
    refine ⟨hm.os.trans h.g.os, hm.tape.trans h.g.tape, hm.output.trans h.g.output, by have := hm.size; simp; omega, fun b hb hne => ?_⟩
    exact (keep b (by omega) (fun hq => by have := hown b hq; omega) (by omega)).trans (h.g.block b hb hne)
  · exact (keep B h.br.lt (fun hq => by have := hown B hq; omega) (by omega)).trans h.br
  · have hN7 : w7.heap[N]? = some (.cells #[.string (str n), va, vk, .string ⟨#[]⟩] 26 (0, 0)) := (hm.block N hNs (fun hx => by
      cases hv : vk.ownBlock with
      | none => rw [hv] at hx; cases hx
      | some q => rw [hv] at hx; have := hown q hv; simp at hx; omega)).trans h.nr
    have := heap_setCell_same w7 N 2 _ _ (.slice (some ⟨g, 0, none⟩) (kds.length + 1) cap) hN7
    simpa using this
  · rw [List.length_append, List.length_singleton, rowN_snoc]
    have hgN : N + 1 ≤ g := (ho.lt g rfl).1
    exact own_mvd ho (Mvd.of_set w7 N 2 _) (fun q hq => by cases hq; simp; omega)
  · intro k' hk'
    rcases List.mem_append.1 hk' with hk' | hk'
    · exact (h.kd k' hk').frame kF fun b hb => .inl hb
    · rw [List.mem_singleton] at hk'
      subst hk'
      exact hk.frame kFk fun b hb => .inr hb
  · intro b hb
    have h3 : b < wr.heap.size ∧ (b < A ∨ N < b) ∧ vk.ownBlock ≠ some b := hb.elim (h.fF b) (hF b)
    refine ⟨by have := hm.size; simp; omega, h3.2.1, fun hx => ?_⟩
    have hgb : g = b := by simpa [Value.ownBlock] using hx
    rcases hg with hg | hg
    · exact h3.2.2 (by rw [hg, hgb])
    · omega
end
theorem NdV.retext {w : World} {F : Nat → Prop} {n t t' : List UInt8} {ats : List At2} {ks : List Tr} {va vk : Value} (h : NdV w F (.mk n ats ks t) va vk) : NdV w F (.mk n ats ks t') va vk := by
  cases h with
  | leaf ha hb => exact .leaf ha hb
  | kids ka kk ha hb hF hc hm hcell hk => exact .kids ka kk ha hb hF hc hm hcell hk
theorem rowN_set (a : List Kd) (k : Kd) (t : List UInt8) : (rowN (a ++ [k])).set (a.length * 4 + 3) (.string (str t)) = rowN (a ++ [⟨.mk k.x.n k.x.ats k.x.ks t, k.va, k.vk⟩]) := by
  rw [rowN_snoc, rowN_snoc, List.set_append_right _ _ (by rw [rowN_len]; omega), rowN_len, show a.length * 4 + 3 - a.length * 4 = 3 by omega]
  rfl
section
variable {w w0 wS wr w' : World} {A B N : Nat} {vL va vk : Value} {n : List UInt8} {kds : List Kd} {F : Nat → Prop} {i c i' c' : Nat} {e o e' o' : Int}
/-- more text at the last kid -/
theorem Lp.merge {a : List Kd} {k : Kd} {g cap : Nat} (h : Lp w w0 wS A B N vL n va (.slice (some ⟨g, 0, none⟩) (a.length + 1) cap) (a ++ [k]) F i c e o wr) (t : List UInt8) :
    Lp w w0 wS A B N vL n va (.slice (some ⟨g, 0, none⟩) (a.length + 1) cap) (a ++ [⟨.mk k.x.n k.x.ats k.x.ks t, k.va, k.vk⟩]) F i c e o (wr.setCell ⟨g, a.length * 4 + 3, none⟩ (.string (str t))) := by
  obtain ⟨b1, b2, b3⟩ := h.bd
  have hgN : N + 1 ≤ g := (h.ow.lt g rfl).1
  have ho := h.ow
  rw [List.length_append, List.length_singleton] at ho
  have hs := World.ownsRow.stored ho (a.length * 4 + 3) (.string (str t))
  have keep : ∀ b, b ≠ g → (wr.setCell ⟨g, a.length * 4 + 3, none⟩ (.string (str t))).heap[b]? = wr.heap[b]? := fun b hb => heap_setCell_other wr ⟨g, a.length * 4 + 3, none⟩ b _ (fun e => hb e)
  have kF : ∀ b, F b → (wr.setCell ⟨g, a.length * 4 + 3, none⟩ (.string (str t))).heap[b]? = wr.heap[b]? := fun b hb => keep b (fun e => (h.fF b hb).2.2 (by rw [e]; rfl))
  refine ⟨⟨h.g.os, h.g.tape, h.g.output, by have := h.g.size; simpa using this, fun b hb hne => (keep b (by omega)).trans (h.g.block b hb hne)⟩, (keep B (by omega)).trans h.br, (keep N (by omega)).trans h.nr, ?_, ?_, ?_, fun b g1 g2 => (keep b (by omega)).trans (h.kp b g1 g2), h.bd⟩
  · rw [List.length_append, List.length_singleton, ← rowN_set]
    exact hs.1
  · intro k' hk'
    rcases List.mem_append.1 hk' with hk' | hk'
    · exact (h.kd k' (by simp [hk'])).frame kF fun b hb => hb
    · rw [List.mem_singleton] at hk'
      subst hk'
      have := (h.kd k (by simp)).frame kF (fun b hb => hb)
      rw [← Tr.eta k.x] at this
      exact this.retext
  · intro b hb
    obtain ⟨f1, f2, f3⟩ := h.fF b hb
    exact ⟨by simpa using f1, f2, f3⟩
theorem Lp.nrow (h : Lp w w0 wS A B N vL n va vk kds F i c e o wr) (hm : Mvd vk.ownBlock.toList wr w') : w'.heap[N]? = some (.cells #[.string (str n), va, vk, .string ⟨#[]⟩] 26 (0, 0)) :=
  (hm.block N (Array.getElem?_eq_some_iff.1 h.nr).1 (fun hx => by
    cases hv : vk.ownBlock with
    | none => rw [hv] at hx; cases hx
    | some q => rw [hv] at hx; have := (h.ow.lt q hv).1; simp at hx; omega)).trans h.nr
/-- what is handed back -/
theorem Lp.node (h : Lp w w0 wS A B N vL n va vk kds F i c e o wr) {ats : List At2} (hA : w0.heap.size = A) (h0 : Below A w0 w) (ha : RdAs w0 va ats) :
    ∃ F', NdV wr F' (.mk n ats (kds.map (·.x)) []) va vk ∧ ∀ b, F' b → b < wr.heap.size ∧ (b < A ∨ N < b) := by
  obtain ⟨b1, b2, b3⟩ := h.bd
  have hbw : Below A w0 wr := gB_low h0 (by omega) b1 h.g
  refine ⟨fun b => F b ∨ vk.ownBlock = some b ∨ (ats ≠ [] ∧ va.ownBlock = some b), NdV.of_own h.ow (ha.below hbw (by omega)) (fun hn q hq => .inr (.inr ⟨hn, hq⟩)) (fun k hk => (h.kd k hk).frame (fun _ _ => rfl) fun b hb => .inl hb) (fun q hq => .inr (.inl hq)), ?_⟩
  rintro b (hb | hb | ⟨hn, hb⟩)
  · obtain ⟨f1, f2, f3⟩ := h.fF b hb
    exact ⟨f1, f2⟩
  · have := h.ow.lt b hb
    exact ⟨this.2, .inr (by omega)⟩
  · have := ha.block hn b hb
    exact ⟨by have := hbw.size; omega, .inl (by omega)⟩
end
theorem el_results (tmps : Array Value) (w : World) (R : Nat) (a b c d : Value) (h6 : tmps.getD 6 undef = .pointer (some ⟨R, 0, none⟩)) (hR : w.heap[R]? = some (.cells #[a, b, c, d] 26 (0, 0))) :
    (results Tryz.f23 tmps).run Tryz.prog w = .ok (.agg #[a, b, c, d]) w := by
  have h6' : tmps[6]?.getD undef = .pointer (some ⟨R, 0, none⟩) := by simpa using h6
  have l1 := run_loadVar_row w R 26 26 #[a, b, c, d] (0, 0) _ hR Tryz.underlying26 rfl (by kernel_rfl)
  simp [results, Tryz.results23, h6', asAddr, l1]
/-! what building comes to, token by token -/
theorem drop_at {ts : List Tk} {i : Nat} {x : Tk} (h : ts[i]? = some x) : ts.drop i = x :: ts.drop (i + 1) := by
  obtain ⟨h1, h2⟩ := List.getElem?_eq_some_iff.1 h
  rw [List.drop_eq_getElem_cons h1, h2]
section
variable {nn c : Nat} {st : List Tr} {x : Tk} {r : List Tk} {n : List UInt8} {ats : List At2} {l : List Tr}
theorem grow_ok3 {g g' : Gs} (h : addG g x = .ok g') : growM nn g (x :: r) = growM nn g' r := by rw [growM, h]
theorem grow_no3 {g : Gs} {e : Int} (h : addG g x = .bad e) : growM nn g (x :: r) = .bad e x.o := by rw [growM, h]
theorem add_b (g : Gs) (h : x.k = 1 ∨ x.k = 2) : addG g x = beginG g x.n x.ats x.k := if_pos h
theorem el_bad (h : x.k = 1 ∨ x.k = 2) (hb : 64 ≤ st.length ∨ 4096 ≤ c) : growM nn ⟨st, none, c⟩ (x :: r) = .bad 2 x.o := by
  refine grow_no3 ?_
  rw [add_b _ h, beginG, if_neg (by simp), if_pos hb]
theorem el_empty (h : x.k = 2) (hb : ¬ (64 ≤ st.length ∨ 4096 ≤ c)) : growM nn ⟨st, none, c⟩ (x :: r) = growM nn (leaveG ⟨.mk x.n x.ats [] [] :: st, none, c + 1⟩) r := by
  refine grow_ok3 ?_
  rw [add_b _ (.inr h), beginG, if_neg (by simp), if_neg hb, if_pos h]
theorem el_open (h : x.k = 1) (hb : ¬ (64 ≤ st.length ∨ 4096 ≤ c)) : growM nn ⟨st, none, c⟩ (x :: r) = growM nn ⟨.mk x.n x.ats [] [] :: st, none, c + 1⟩ r := by
  refine grow_ok3 ?_
  rw [add_b _ (.inl h), beginG, if_neg (by simp), if_neg hb, if_neg (by rw [h]; decide)]
theorem el_stop (u : Tr) : growM nn ⟨u :: st, none, c⟩ [] = .bad 13 nn := by rw [growM, if_pos (by simp)]
theorem add_e (g : Gs) (h : x.k = 3) : addG g x = endG g x.n := by unfold addG; rw [if_neg (by omega), if_pos h]
theorem el_close (u : Tr) (h : x.k = 3) (hn : u.n = x.n) : growM nn ⟨u :: st, none, c⟩ (x :: r) = growM nn (leaveG ⟨u :: st, none, c⟩) r := by
  refine grow_ok3 ?_
  rw [add_e _ h, endG]
  exact if_pos hn
theorem el_tag (u : Tr) (h : x.k = 3) (hn : u.n ≠ x.n) : growM nn ⟨u :: st, none, c⟩ (x :: r) = .bad 14 x.o := by
  refine grow_no3 ?_
  rw [add_e _ h, endG]
  exact if_neg hn
theorem add_t (g : Gs) (h : x.k = 4) : addG g x = textG g x.t := by unfold addG; rw [if_neg (by omega), if_neg (by omega), if_pos h]
theorem el_skip (u : Tr) (h1 : x.k ≠ 1) (h2 : x.k ≠ 2) (h3 : x.k ≠ 3) (h4 : x.k ≠ 4 ∨ x.t = []) : growM nn ⟨u :: st, none, c⟩ (x :: r) = growM nn ⟨u :: st, none, c⟩ r := by
  refine grow_ok3 ?_
  by_cases h : x.k = 4
  · rw [add_t _ h]
    unfold textG
    exact if_pos (h4.resolve_left (fun h' => h' h))
  · unfold addG
    rw [if_neg (by omega), if_neg h3, if_neg h]
/-- the last one of these is a text -/
def lastX (l : List Tr) : Bool := match l.getLast? with
  | some k => decide (k.n = [])
  | none => false
theorem lastX_snoc (l : List Tr) (y : Tr) : lastX (l ++ [y]) = decide (y.n = []) := by unfold lastX; rw [List.getLast?_append]; rfl
theorem el_new (h : x.k = 4) (ht : x.t ≠ []) (hl : lastX l = false) (hc : c < 4096) : growM nn ⟨.mk n ats l [] :: st, none, c⟩ (x :: r) = growM nn ⟨.mk n ats (l ++ [.mk [] [] [] x.t]) [] :: st, none, c + 1⟩ r := by
  refine grow_ok3 ?_
  rw [add_t _ h]
  show (if x.t = [] then _ else _) = _
  rw [if_neg ht]
  unfold lastX at hl
  show (match l.getLast? with | some k => _ | none => _) = _
  cases hk : l.getLast? with
  | none => show (if 4096 ≤ c then _ else _) = _; rw [if_neg (by omega)]; rfl
  | some k =>
    rw [hk] at hl
    have g6' : ¬ k.n = [] := by simpa using hl
    show (if k.n = [] then _ else if 4096 ≤ c then _ else _) = _
    rw [if_neg g6', if_neg (by omega)]; rfl
theorem el_full (h : x.k = 4) (ht : x.t ≠ []) (hl : lastX l = false) (hc : 4096 ≤ c) : growM nn ⟨.mk n ats l [] :: st, none, c⟩ (x :: r) = .bad 2 x.o := by
  refine grow_no3 ?_
  rw [add_t _ h]
  show (if x.t = [] then _ else _) = _
  rw [if_neg ht]
  unfold lastX at hl
  show (match l.getLast? with | some k => _ | none => _) = _
  cases hk : l.getLast? with
  | none => show (if 4096 ≤ c then _ else _) = _; rw [if_pos hc]
  | some k =>
    rw [hk] at hl
    have g6' : ¬ k.n = [] := by simpa using hl
    show (if k.n = [] then _ else if 4096 ≤ c then _ else _) = _
    rw [if_neg g6', if_pos hc]
theorem el_more (k : Tr) (h : x.k = 4) (ht : x.t ≠ []) (hk : k.n = []) : growM nn ⟨.mk n ats (l ++ [k]) [] :: st, none, c⟩ (x :: r) = growM nn ⟨.mk n ats (l ++ [.mk k.n k.ats k.ks (k.t ++ x.t)]) [] :: st, none, c⟩ r := by
  refine grow_ok3 ?_
  rw [add_t _ h]
  show (if x.t = [] then _ else _) = _
  rw [if_neg ht]
  show (match (l ++ [k]).getLast? with | some k => _ | none => _) = _
  have e : (l ++ [k]).getLast? = some k := by simp
  rw [e]
  show (if k.n = [] then _ else _) = _
  rw [if_pos hk]
  show Rg.ok ⟨Tr.mk n ats ((l ++ [k]).dropLast ++ [Tr.mk k.n k.ats k.ks (k.t ++ x.t)]) [] :: st, none, c⟩ = _
  rw [List.dropLast_concat]
end
/-- how many letters the first texts have -/
def tS (ts : List Tk) (i : Nat) : Nat := ((ts.take i).map fun x => x.t.length).sum
theorem tS_succ {ts : List Tk} {i : Nat} {x : Tk} (h : ts[i]? = some x) : tS ts (i + 1) = tS ts i + x.t.length := by
  unfold tS
  rw [take_snoc _ i x h, List.map_append, List.sum_append]
  simp
theorem tS_mono {ts : List Tk} {i j : Nat} (h : i ≤ j) : tS ts i ≤ tS ts j := by
  obtain ⟨d, rfl⟩ := Nat.exists_eq_add_of_le h
  unfold tS
  rw [List.take_add, List.map_append, List.sum_append]
  omega
/-! the loop's invariant -/
def Sg (k : Int) (n : List UInt8) (ats : List At2) (l : List Tr) (st : List Tr) (c : Nat) : Gs := if k = 1 then ⟨.mk n ats l [] :: st, none, c⟩ else leaveG ⟨.mk n ats l [] :: st, none, c⟩
/-- where building stands: it goes on from g, or ended with an error -/
def Gr (nn : Nat) (ts : List Tk) (st : List Tr) (i c : Nat) (g : Gs) (j cc : Nat) (e q : Int) : Prop :=
  (e = 0 ∧ q = 0 ∧ cc ≤ 4096 ∧ growM nn ⟨st, none, c⟩ (ts.drop i) = growM nn g (ts.drop j)) ∨ (e ≠ 0 ∧ ∃ o : Nat, q = (o : Int) ∧ growM nn ⟨st, none, c⟩ (ts.drop i) = .bad e o)
theorem Gr.ok {nn : Nat} {ts : List Tk} {st : List Tr} {i c j cc : Nat} {g : Gs} {q : Int} (h : Gr nn ts st i c g j cc 0 q) : q = 0 ∧ cc ≤ 4096 ∧ growM nn ⟨st, none, c⟩ (ts.drop i) = growM nn g (ts.drop j) := by
  rcases h with ⟨_, h2, h3, h4⟩ | ⟨h1, _⟩
  · exact ⟨h2, h3, h4⟩
  · exact absurd rfl h1
structure LI (nn : Nat) (ts : List Tk) (st : List Tr) (i c : Nat) (n : List UInt8) (ats : List At2) (k : Int) (kds : List Kd) (j cc : Nat) (e q : Int) (fl : Bool) : Prop where
  j1 : i < j
  j2 : j ≤ ts.length
  kn : kds.length ≤ j
  kt : ∀ d ∈ kds, d.x.t.length ≤ tS ts j
  fl : fl = lastX (kds.map (·.x))
  k2 : k ≠ 1 → kds = []
  dk : e = 0 → st.length < 64
  s : Gr nn ts st i c (Sg k n ats (kds.map (·.x)) st cc) j cc e q
section
variable {nn i c j cc : Nat} {ts : List Tk} {st : List Tr} {n : List UInt8} {ats : List At2} {k e q : Int} {kds : List Kd} {fl bad : Bool}
theorem LI.start {t : List UInt8} {o : Nat} (hx : ts[i]? = some ⟨k, n, ats, t, o⟩) (hk : k = 1 ∨ k = 2) (hc : (bad = false ∧ e = 0 ∧ q = 0) ∨ (bad = true ∧ e = 2 ∧ q = (o : Int))) (hb : bad = decide (64 ≤ st.length ∨ 4096 ≤ c)) : LI nn ts st i c n ats k [] (i + 1) (c + 1) e q false := by
  have hi := (List.getElem?_eq_some_iff.1 hx).1
  refine ⟨by omega, by omega, by simp, by simp, rfl, fun _ => rfl, fun he => ?_, ?_⟩
  · rcases hc with ⟨h1, h2, h3⟩ | ⟨h1, h2, h3⟩
    · rw [h1] at hb
      have := of_decide_eq_false hb.symm
      omega
    · rw [he] at h2; cases h2
  rw [Gr, drop_at hx]
  rcases hc with ⟨h1, h2, h3⟩ | ⟨h1, h2, h3⟩
  · rw [h1] at hb
    have hb := of_decide_eq_false hb.symm
    refine .inl ⟨h2, h3, by omega, ?_⟩
    unfold Sg
    rcases hk with hk | hk
    · rw [if_pos hk]; exact el_open (x := ⟨k, n, ats, t, o⟩) hk hb
    · rw [if_neg (by omega)]; exact el_empty (x := ⟨k, n, ats, t, o⟩) hk hb
  · rw [h1] at hb
    have hb := of_decide_eq_true hb.symm
    exact .inr ⟨by rw [h2]; decide, o, h3, by rw [h2]; exact el_bad (x := ⟨k, n, ats, t, o⟩) hk hb⟩
theorem LI.one (h : LI nn ts st i c n ats 1 kds j cc 0 q fl) : q = 0 ∧ cc ≤ 4096 ∧ growM nn ⟨st, none, c⟩ (ts.drop i) = growM nn ⟨.mk n ats (kds.map (·.x)) [] :: st, none, cc⟩ (ts.drop j) := by
  have := h.s.ok
  unfold Sg at this
  rw [if_pos rfl] at this
  exact this
/-- at the end of the tokens -/
theorem LI.stop (h : LI nn ts st i c n ats 1 kds j cc 0 q fl) (hj : ts.length ≤ j) : growM nn ⟨st, none, c⟩ (ts.drop i) = .bad 13 nn := by
  rw [h.one.2.2, List.drop_eq_nil_of_le hj]
  exact el_stop _
theorem LI.tag {y : Tk} (h : LI nn ts st i c n ats 1 kds j cc 0 q fl) (hy : ts[j]? = some y) (hk : y.k = 3) (hn : n ≠ y.n) : growM nn ⟨st, none, c⟩ (ts.drop i) = .bad 14 y.o := by
  rw [h.one.2.2, drop_at hy]
  exact el_tag _ hk hn
theorem LI.close {y : Tk} (h : LI nn ts st i c n ats 1 kds j cc 0 q fl) (hy : ts[j]? = some y) (hk : y.k = 3) (hn : n = y.n) : growM nn ⟨st, none, c⟩ (ts.drop i) = growM nn (leaveG ⟨.mk n ats (kds.map (·.x)) [] :: st, none, cc⟩) (ts.drop (j + 1)) := by
  rw [h.one.2.2, drop_at hy]
  exact el_close _ hk hn
theorem LI.skip {y : Tk} (h : LI nn ts st i c n ats 1 kds j cc 0 q fl) (hy : ts[j]? = some y) (h1 : y.k ≠ 1) (h2 : y.k ≠ 2) (h3 : y.k ≠ 3) (h4 : y.k ≠ 4 ∨ y.t = []) : LI nn ts st i c n ats 1 kds (j + 1) cc 0 q fl := by
  have hj := (List.getElem?_eq_some_iff.1 hy).1
  refine ⟨by have := h.j1; omega, by omega, by have := h.kn; omega, fun d hd => Nat.le_trans (h.kt d hd) (tS_mono (by omega)), h.fl, h.k2, h.dk, ?_⟩
  obtain ⟨g1, g2, g3⟩ := h.one
  unfold Sg Gr
  rw [if_pos rfl]
  refine .inl ⟨rfl, g1, g2, ?_⟩
  rw [g3, drop_at hy]
  exact el_skip _ h1 h2 h3 h4
theorem LI.text {y : Tk} {va vk : Value} (h : LI nn ts st i c n ats 1 kds j cc 0 q false) (hy : ts[j]? = some y) (hk : y.k = 4) (ht : y.t ≠ []) (hc : cc < 4096) : LI nn ts st i c n ats 1 (kds ++ [⟨.mk [] [] [] y.t, va, vk⟩]) (j + 1) (cc + 1) 0 q true := by
  have hj := (List.getElem?_eq_some_iff.1 hy).1
  refine ⟨by have := h.j1; omega, by omega, by have := h.kn; rw [List.length_append, List.length_singleton]; omega, fun d hd => ?_, ?_, fun h => absurd rfl h, fun _ => h.dk rfl, ?_⟩
  · rw [tS_succ hy]
    rcases List.mem_append.1 hd with hd | hd
    · have := h.kt d hd; omega
    · rw [List.mem_singleton] at hd
      subst hd
      show y.t.length ≤ _; omega
  · rw [List.map_append]
    exact (show lastX (kds.map (·.x) ++ [Tr.mk [] [] [] y.t]) = true by rw [lastX_snoc]; rfl).symm
  obtain ⟨g1, g2, g3⟩ := h.one
  unfold Sg Gr
  rw [if_pos rfl]
  refine .inl ⟨rfl, g1, by omega, ?_⟩
  rw [g3, drop_at hy, List.map_append]
  exact el_new hk ht h.fl.symm hc
theorem LI.full {y : Tk} (h : LI nn ts st i c n ats 1 kds j cc 0 q false) (hy : ts[j]? = some y) (hk : y.k = 4) (ht : y.t ≠ []) (hc : 4096 ≤ cc) : growM nn ⟨st, none, c⟩ (ts.drop i) = .bad 2 y.o := by
  rw [h.one.2.2, drop_at hy]
  exact el_full hk ht h.fl.symm hc
theorem LI.over {y : Tk} {va vk : Value} (h : LI nn ts st i c n ats 1 kds j cc 0 q false) (hy : ts[j]? = some y) (hk : y.k = 4) (ht : y.t ≠ []) (hc : 4096 ≤ cc) : LI nn ts st i c n ats 1 (kds ++ [⟨.mk [] [] [] y.t, va, vk⟩]) (j + 1) (cc + 1) 2 (y.o : Int) true := by
  have hj := (List.getElem?_eq_some_iff.1 hy).1
  refine ⟨by have := h.j1; omega, by omega, by have := h.kn; rw [List.length_append, List.length_singleton]; omega, fun d hd => ?_, ?_, fun h => absurd rfl h, (fun he => by cases he), ?_⟩
  · rw [tS_succ hy]
    rcases List.mem_append.1 hd with hd | hd
    · have := h.kt d hd; omega
    · rw [List.mem_singleton] at hd
      subst hd
      show y.t.length ≤ _; omega
  · rw [List.map_append]
    exact (show lastX (kds.map (·.x) ++ [Tr.mk [] [] [] y.t]) = true by rw [lastX_snoc]; rfl).symm
  · exact .inr ⟨by decide, y.o, rfl, h.full hy hk ht hc⟩
theorem LI.last (h : LI nn ts st i c n ats k kds j cc e q true) : ∃ a d, kds = a ++ [d] ∧ d.x.n = [] := by
  have hf := h.fl
  rcases List.eq_nil_or_concat kds with rfl | ⟨a, d, rfl⟩
  · cases hf
  · refine ⟨a, d, by simp, ?_⟩
    rw [List.concat_eq_append, List.map_append, show [d].map (·.x) = [d.x] from rfl, lastX_snoc] at hf
    exact of_decide_eq_true hf.symm
theorem LI.more {y : Tk} {a : List Kd} {d : Kd} (h : LI nn ts st i c n ats 1 (a ++ [d]) j cc 0 q true) (hd : d.x.n = []) (hy : ts[j]? = some y) (hk : y.k = 4) (ht : y.t ≠ []) : LI nn ts st i c n ats 1 (a ++ [⟨.mk d.x.n d.x.ats d.x.ks (d.x.t ++ y.t), d.va, d.vk⟩]) (j + 1) cc 0 q true := by
  have hj := (List.getElem?_eq_some_iff.1 hy).1
  refine ⟨by have := h.j1; omega, by omega, by have := h.kn; rw [List.length_append, List.length_singleton] at this ⊢; omega, fun d' hd' => ?_, ?_, fun h => absurd rfl h, fun _ => h.dk rfl, ?_⟩
  · rw [tS_succ hy]
    rcases List.mem_append.1 hd' with hd' | hd'
    · have := h.kt d' (by simp [hd']); omega
    · rw [List.mem_singleton] at hd'
      subst hd'
      have := h.kt d (by simp)
      show (d.x.t ++ y.t).length ≤ _
      rw [List.length_append]; omega
  · rw [List.map_append, show ([⟨.mk d.x.n d.x.ats d.x.ks (d.x.t ++ y.t), d.va, d.vk⟩] : List Kd).map (·.x) = [.mk d.x.n d.x.ats d.x.ks (d.x.t ++ y.t)] from rfl, lastX_snoc]
    exact (decide_eq_true (show (Tr.mk d.x.n d.x.ats d.x.ks (d.x.t ++ y.t)).n = [] from hd)).symm
  obtain ⟨g1, g2, g3⟩ := h.one
  unfold Sg Gr
  rw [if_pos rfl]
  refine .inl ⟨rfl, g1, g2, ?_⟩
  rw [g3, drop_at hy, List.map_append, List.map_append]
  exact el_more d.x hk ht hd
/-- a kid that is an element, whatever came of it -/
theorem LI.kid {y : Tr} {va vk : Value} {j' c' : Nat} {e' q' : Int} (h : LI nn ts st i c n ats 1 kds j cc 0 q fl) (hj1 : j < j') (hj2 : j' ≤ ts.length) (hyt : y.t = []) (hyn : y.n ≠ [])
    (hs : Gr nn ts (.mk n ats (kds.map (·.x)) [] :: st) j cc (leaveG ⟨y :: .mk n ats (kds.map (·.x)) [] :: st, none, c'⟩) j' c' e' q') : LI nn ts st i c n ats 1 (kds ++ [⟨y, va, vk⟩]) j' c' e' q' false := by
  refine ⟨by have := h.j1; omega, hj2, by have := h.kn; rw [List.length_append, List.length_singleton]; omega, fun d hd => ?_, ?_, fun h => absurd rfl h, fun _ => h.dk rfl, ?_⟩
  · rcases List.mem_append.1 hd with hd | hd
    · exact Nat.le_trans (h.kt d hd) (tS_mono (by omega))
    · rw [List.mem_singleton] at hd
      subst hd
      show y.t.length ≤ _
      rw [hyt]; simp
  · rw [List.map_append, show ([⟨y, va, vk⟩] : List Kd).map (·.x) = [y] from rfl, lastX_snoc]
    exact (decide_eq_false hyn).symm
  obtain ⟨g1, g2, g3⟩ := h.one
  unfold Sg Gr at *
  rw [if_pos rfl, List.map_append]
  rcases hs with ⟨s1, s2, s3, s4⟩ | ⟨s1, o, s2, s3⟩
  · exact .inl ⟨s1, s2, s3, by rw [g3, s4]; rfl⟩
  · exact .inr ⟨s1, o, s2, by rw [g3, s3]⟩
end
/-- the end of an element -/
theorem Lp.fin {w w0 wS wr : World} {A B N R i c : Nat} {vL va vk : Value} {n : List UInt8} {ats : List At2} {kds : List Kd} {F : Nat → Prop} {e o : Int} (h : Lp w w0 wS A B N vL n va vk kds F i c e o wr) (hA : w0.heap.size = A) (h0 : Below A w0 w) (ha : RdAs w0 va ats) (hR : w.heap.size ≤ R ∧ R < N) (cs : Array Value) :
    Br (wr.setRow R cs) B vL i c e o ∧ (∃ F', NdV (wr.setRow R cs) F' (.mk n ats (kds.map (·.x)) []) va vk ∧ ∀ b, F' b → b < (wr.setRow R cs).heap.size ∧ (b < A ∨ w.heap.size ≤ b)) ∧ w.grownBy (wr.setRow R cs) (some B) := by
  obtain ⟨b1, b2, b3⟩ := h.bd
  obtain ⟨F', h1, h2⟩ := h.node hA h0 ha
  refine ⟨(setRow_other wr R B cs (by omega)).trans h.br, ⟨F', h1.frame (fun b hb => setRow_other wr R b cs (by have := h2 b hb; have := h0.size; omega)) (fun b hb => hb), fun b hb => ?_⟩, ⟨h.g.os, h.g.tape, h.g.output, by simpa using h.g.size, fun b hb hne => (setRow_other wr R b cs (by omega)).trans (h.g.block b hb hne)⟩⟩
  have := h2 b hb
  exact ⟨by simpa using this.1, by omega⟩
end
/-! ElW3 -/
section
open Go.RowKit

theorem appE {ops : Array Oper} {rest : List Oper} {o : Oper} {a : Act} {w w2 : World} {Q : Exit → Act → World → Prop} (s x : Operand) (hgd : o.guard = none)
    (ho : o.op = .call { callee := .builtin .append, args := #[s, x], argTypes := #[24, 24] }) {base n : Nat} {v : Value} {xs : List Value} (k : Kd) (q : Nat) (hsv : a.eval s = v) (hx : a.eval x = .slice (some ⟨q, 0, none⟩) 1 1)
    (hb : Below w2.heap.size w2 w) (hown : w2.ownsRow base 26 4 v n xs) (hq : w.heap[q]? = some (.cells (kdL k).toArray 26 (0, 0))) (h1 : k.va.oneCell' = true) (h2 : k.vk.oneCell' = true) (hn : n ≤ 100000) (hbase : base ≤ w2.heap.size)
    (hK : ∀ g cap w', w'.ownsRow base 26 4 (.slice (some ⟨g, 0, none⟩) (n + 1) cap) (n + 1) (xs ++ kdL k) → Mvd v.ownBlock.toList w2 w' → (v.ownBlock = some g ∨ w2.heap.size ≤ g) → wpList Tryz.prog ops Q rest (a.put o.dst (.slice (some ⟨g, 0, none⟩) (n + 1) cap)) w') :
    wpList Tryz.prog ops Q (o :: rest) a w := by
  obtain ⟨i, hi, hz, hsize, hby⟩ := info_parts node_info
  have hm : Mvd [] w2 w := Mvd.of_below hb
  refine wpList_append_lies _ hgd s x 24 ho base 26 i _ 4 80 Tryz.underlying24 hi hz hsize hby rfl (by omega) v n xs hsv (own_mvd hown hm (by simp)) ⟨q, 0, none⟩ 1 1 (kdL k) hx rfl ?_ ?_ (by omega) (by simp only [maxLen]; omega) (by omega) (Nat.le_trans hbase hb.size) w.heap.size rfl ?_
  · intro j y hj
    rw [show (⟨q, 0, none⟩ : Addr).add j = ⟨q, j, none⟩ by unfold Addr.add; split <;> simp_all, cell_of_row _ q j _ _ (0, 0) hq]
    simpa using hj
  · intro u hu
    simp only [kdL, ndL, List.mem_cons, List.not_mem_nil, or_false] at hu
    rcases hu with rfl | rfl | rfl | rfl <;> first | rfl | exact h1 | exact h2
  · intro g cap w' ho' hg hor _
    refine hK g cap w' ho' ((Mvd.of_below hb).trans (Mvd.of_grown hg)) ?_
    rcases hor with h | h
    · exact .inl h
    · exact .inr (by rw [h]; exact hb.size)
def ElQ (nn : Nat) (w0 : World) (vL : Value) (ts : List Tk) (B i c : Nat) (st : List Tr) (w : World) (r : Ending) (w' : World) : Prop :=
  ∃ (x : Tr) (va vk : Value) (F : Nat → Prop) (i' c' : Nat) (e o : Int), r = .returned (nodeV x va vk) ∧ Br w' B vL i' c' e o ∧ NdV w' F x va vk ∧ (∀ b, F b → b < w'.heap.size ∧ (b < w0.heap.size ∨ w.heap.size ≤ b)) ∧ w.grownBy w' (some B) ∧ x.t = [] ∧ x.n ≠ [] ∧ i < i' ∧ i' ≤ ts.length ∧ Gr nn ts st i c (leaveG ⟨x :: st, none, c'⟩) i' c' e o
def ElS (nn : Nat) (l : List UInt8) (w0 : World) (vL : Value) (ts : List Tk) (m : Nat) : Prop :=
  ∀ (B i c d : Nat) (x : Tk) (st : List Tr) (w : World), ts.length - i ≤ m → ts[i]? = some x → (x.k = 1 ∨ x.k = 2) → st.length = d → d ≤ 64 → c ≤ 4096 → w0.heap.size ≤ B → Below w0.heap.size w0 w → Br w B vL i c 0 0 →
    Calls Tryz.prog 23 #[.pointer (some ⟨B, 0, none⟩), .int .i64 (d : Int), .int .i64 (nn : Int)] w (ElQ nn w0 vL ts B i c st w)
/-- the Builder's place -/
def jOf (B : Nat) (w : World) : Nat := match w.cell? ⟨B, 1, none⟩ with
  | some (.int _ z) => z.toNat
  | _ => 0
set_option maxRecDepth 100000 in
set_option maxHeartbeats 8000000 in
theorem el_step (nn : Nat) (l : List UInt8) (w0 : World) (vL : Value) (ts : List Tk) (hR : RdTs w0 vL (ts.map (Tk.mem l))) (hS : tS ts ts.length ≤ 1000000) (hl : ts.length ≤ 100000) (hn9 : ∀ x ∈ ts, x.k = 1 ∨ x.k = 2 → x.n ≠ []) (m : Nat) (ih : ElS nn l w0 vL ts m) : ElS nn l w0 vL ts (m + 1) := by
  intro B i c d x st w hm hx hk hst hd hc hB h0 hbr
  obtain ⟨la, lc, hvL⟩ := RdSl.shape hR
  rw [List.length_map] at hvL
  subst hvL
  have hil : i < ts.length := (List.getElem?_eq_some_iff.1 hx).1
  have hxm : (ts.map (Tk.mem l))[i]? = some (x.mem l) := by rw [List.getElem?_map, hx]; rfl
  obtain ⟨la0, e1, va, ⟨t0, t1, t2, t3, t4, t5, t6⟩, hats⟩ := RdSl.elem hR hxm
  subst e1
  obtain ⟨ua, uc, rfl⟩ := RdSl.shape hats
  obtain ⟨w1, hw1⟩ : ∃ w1, w1 = w.alloc (.cells #[.string ⟨#[]⟩, .slice none 0 0, .slice none 0 0, .string ⟨#[]⟩] 26) := ⟨_, rfl⟩
  have hb1 : Below w.heap.size w w1 := by rw [hw1]; exact (Below.refl _ _).alloc (Nat.le_refl _) _
  have hR1 : w1.heap[w.heap.size]? = some (.cells #[.string ⟨#[]⟩, .slice none 0 0, .slice none 0 0, .string ⟨#[]⟩] 26 (0, 0)) := by rw [hw1]; exact heap_alloc_new w _
  have hbr1 : Br w1 B (.slice (some la0) ts.length lc) i c 0 0 := (hb1.block B hbr.lt).trans hbr
  have hz1 : w1.heap.size = w.heap.size + 1 := by rw [hw1]; simp
  have h01 : Below w0.heap.size w0 w1 := h0.trans (hb1.mono h0.size)
  have hcell : ∀ {A : Addr} {u : Value}, w0.cell? A = some u → w1.cell? A = some u := fun h => (h01.cell (World.block_lt_of_cell? w0 _ h)).trans h
  have t0 := hcell t0
  have t1 := hcell t1
  have t2 := hcell t2
  have t3 := hcell t3
  have t4 := hcell t4
  have t5 := hcell t5
  have t6 := hcell t6
  obtain ⟨b0, b1, b2, b3, b4⟩ := hbr1.cells
  have hiI : (i : Int) < (ts.length : Int) := by omega
  have hlI : (ts.length : Int) ≤ 100000 := by omega
  have HW1 := Lib.hid hw1
  have HBR1 := Lib.hid hbr1
  have HH0 := Lib.hid h0
  have HH01 := Lib.hid h01
  have HBB := Lib.hid (show B < w.heap.size from hbr.lt)
  have HB := Lib.hid hB
  have HX := Lib.hid hx
  have HK := Lib.hid hk
  have HST := Lib.hid hst
  have HM := Lib.hid hm
  have HATS := Lib.hid hats
  have HZ1 := Lib.hid hz1
  have HRR := Lib.hid hR1
  have HB1 := Lib.hid hb1
  clear hcell hw1 hbr hbr1 h0 h01 hx hk hst hm hats hz1 hR1 hb1 hxm
  dsimp only [Tk.mem] at t0 t1 t2 t3 t4 t5 t6 HATS
  obtain ⟨k, n, ats, t, o⟩ := x
  dsimp only at t0 t1 t2 t3 t4 t5 t6 HATS HK
  generalize lineS (List.take o l) = LN at t5
  generalize colS (List.take o l) = CL at t6
  go_enter Tryz.func23, Tryz.ntmps23
  go_upto_region 1 with fail
  rw [← HW1.out]
  obtain ⟨Rv, hRv⟩ : ∃ R, R = w.heap.size := ⟨_, rfl⟩
  obtain ⟨Tv, hTv⟩ : ∃ T, T = w1.heap.size := ⟨_, rfl⟩
  obtain ⟨w2, hw2⟩ : ∃ w2, w2 = (w1.alloc (.cells #[.int .i64 k, .string (str n), .slice ua ats.length uc, .string (str t), .int .i64 (o : Int), .int .i64 LN, .int .i64 CL] 51)).drew := ⟨_, rfl⟩
  have hb2 : Below w1.heap.size w1 w2 := by rw [hw2]; exact ((Below.refl _ _).alloc (Nat.le_refl _) _).drew
  have hT2 : w2.heap[Tv]? = some (.cells #[.int .i64 k, .string (str n), .slice ua ats.length uc, .string (str t), .int .i64 (o : Int), .int .i64 LN, .int .i64 CL] 51 (0, 0)) := by rw [hw2, hTv]; exact heap_alloc_new w1 _
  have hz2 : w2.heap.size = w1.heap.size + 1 := by rw [hw2]; show (w1.alloc _).heap.size = _; simp
  have hal : ∀ {A : Addr} {u : Value}, w1.cell? A = some u → (w1.alloc (.cells #[.int .i64 0, .string ⟨#[]⟩, .slice none 0 0, .string ⟨#[]⟩, .int .i64 0, .int .i64 0, .int .i64 0] 51)).cell? A = some u := fun h => (Below.cell ((Below.refl w1.heap.size w1).alloc (Nat.le_refl _) _) (World.block_lt_of_cell? w1 _ h)).trans h
  have HBR2 := Lib.hid (show Br w2 B (.slice (some la0) ts.length lc) i c 0 0 from (hb2.block B HBR1.out.lt).trans HBR1.out)
  have HB2 := Lib.hid hb2
  have HT2 := Lib.hid hT2
  have HZ2 := Lib.hid hz2
  have HW2 := Lib.hid hw2
  have HRV := Lib.hid hRv
  have HTV := Lib.hid hTv
  clear hb2 hT2 hz2 hw2
  go_cut [7] from 11 to 21 (fun tt wx => tt = .pointer (some ⟨Tv, 0, none⟩) ∧ wx = w2)
  case first =>
    have s0 := hal t0
    have s1 := hal t1
    have s2 := hal t2
    have s3 := hal t3
    have s4 := hal t4
    have s5 := hal t5
    have s6 := hal t6
    have g0 := hal b0
    have g1 := hal b1
    clear hal
    go_region_law (fail)
    all_goals
      go_wp2_with fail
      go_meet
      exact ⟨by rw [HTV.out], HW2.out.symm⟩
  case rest =>
  clear hal t0 t1 t2 t3 t4 t5 t6 b0 b1 b2 b3 b4
  obtain ⟨rfl, hwx⟩ := hcut
  obtain rfl : w2 = wc := hwx.symm
  clear hwx
  rw [← hRv]
  clear hRv hTv
  obtain ⟨b0, b1, b2, b3, b4⟩ := HBR2.out.cells
  have f2 := HBR2.out.frozen 2
  have hwc : IntKind.i64.wrap ((c : Int) + 1) = (c : Int) + 1 := by rw [IntWalk.i64_in _ (by omega)]
  have hbr3 : Br (w2.setCell ⟨B, 2, none⟩ (.int .i64 ((c : Int) + 1))) B (.slice (some la0) ts.length lc) i (c + 1) 0 0 := HBR2.out.setC (c + 1)
  have hg3 : w2.grownBy (w2.setCell ⟨B, 2, none⟩ (.int .i64 ((c : Int) + 1))) (some B) := gB_set 2 _
  go_upto_region 3 with fail
  clear b0 b1 b2 b3 b4 f2 hwc
  generalize w2.setCell ⟨B, 2, none⟩ (.int .i64 ((c : Int) + 1)) = w3 at hbr3 hg3 ⊢
  have HBR3 := Lib.hid hbr3
  have HG3 := Lib.hid hg3
  have HT3 := Lib.hid ((hg3.block Tv (Array.getElem?_eq_some_iff.1 HT2.out).1 (fun e => by cases e; have h1 := HTV.out; have h2 := HZ1.out; have h3 := HBB.out; omega)).trans HT2.out)
  obtain ⟨b0, b1, b2, b3, b4⟩ := hbr3.cells
  have f1 := hbr3.frozen 1
  have k0 : w3.cell? ⟨Tv, 0, none⟩ = some (.int .i64 k) := by rw [cell_of_row w3 _ 0 _ _ (0, 0) HT3.out]; rfl
  have k1 : w3.cell? ⟨Tv, 1, none⟩ = some (.string (str n)) := by rw [cell_of_row w3 _ 1 _ _ (0, 0) HT3.out]; rfl
  have k2 : w3.cell? ⟨Tv, 2, none⟩ = some (.slice ua ats.length uc) := by rw [cell_of_row w3 _ 2 _ _ (0, 0) HT3.out]; rfl
  have k4 : w3.cell? ⟨Tv, 4, none⟩ = some (.int .i64 (o : Int)) := by rw [cell_of_row w3 _ 4 _ _ (0, 0) HT3.out]; rfl
  have hwi : IntKind.i64.wrap ((i : Int) + 1) = (i : Int) + 1 := by rw [IntWalk.i64_in _ (by omega)]
  clear hbr3 hg3
  obtain ⟨bad, hbad⟩ : ∃ bad, bad = decide (64 ≤ st.length ∨ 4096 ≤ c) := ⟨_, rfl⟩
  have HBAD := Lib.hid hbad
  go_cut [36] from 28 to 37 (fun tt wx => tt = .bool bad ∧ wx = w3)
  case first =>
    by_cases h1 : 64 ≤ d
    · have h1I : 64 ≤ (d : Int) := by omega
      have hb1 : bad = true := by rw [hbad, HST.out]; exact decide_eq_true (.inl h1)
      clear hbad h1
      go_wp2_with fail
      go_meet
      exact ⟨by rw [hb1], rfl⟩
    · have h1I : ¬ 64 ≤ (d : Int) := by omega
      by_cases h2 : 4096 ≤ c
      · have h2I : 4096 < (c : Int) + 1 := by omega
        have hb1 : bad = true := by rw [hbad, HST.out]; exact decide_eq_true (.inr h2)
        clear hbad h1 h2
        go_wp2_with fail
        go_meet
        exact ⟨by rw [hb1], rfl⟩
      · have h2I : ¬ 4096 < (c : Int) + 1 := by omega
        have hb1 : bad = false := by rw [hbad, HST.out]; exact decide_eq_false (by omega)
        clear hbad h1 h2
        go_wp2_with fail
        go_meet
        exact ⟨by rw [hb1], rfl⟩
  case rest =>
  obtain ⟨rfl, hwx⟩ := hcut
  obtain rfl : w3 = wc := hwx.symm
  clear hwx hbad
  go_upto_if 36 with fail
  go_cut [] from 37 to 42 (fun wx => ∃ e q : Int, Br wx B (.slice (some la0) ts.length lc) i (c + 1) e q ∧ w3.grownBy wx (some B) ∧ ((bad = false ∧ e = 0 ∧ q = 0) ∨ (bad = true ∧ e = 2 ∧ q = (o : Int))))
  case first =>
    cases bad with
    | false =>
      go_wp2_with fail
      go_meet
      exact ⟨0, 0, HBR3.out, gB_refl _ _, by simp⟩
    | true =>
      have HFL := Lib.hid (fail3_at HBR3.out 2 (o : Int))
      go_wp2_with (go_at_call 25; refine HFL.out.mono ?_; rintro e w9 ⟨rfl, hbr9, hg9⟩)
      go_meet
      exact ⟨2, o, hbr9, hg9, by simp⟩
  case rest =>
  obtain ⟨e0, q0, hbr4, hg4, hcs⟩ := hcut
  obtain ⟨w4, hw4⟩ : ∃ v, v = wc := ⟨_, rfl⟩
  rw [← hw4] at hbr4 hg4 ⊢
  clear hw4
  have HT4 := Lib.hid ((hg4.block Tv (Array.getElem?_eq_some_iff.1 HT3.out).1 (fun e => by cases e; have h1 := HTV.out; have h2 := HZ1.out; have h3 := HBB.out; omega)).trans HT3.out)
  have HBR4 := Lib.hid hbr4
  have HG4 := Lib.hid hg4
  have HCS := Lib.hid hcs
  clear b0 b1 b2 b3 b4 f1 k0 k1 k2 k4
  obtain ⟨b0, b1, b2, b3, b4⟩ := hbr4.cells
  have f1 := hbr4.frozen 1
  have hbr5 : Br (w4.setCell ⟨B, 1, none⟩ (.int .i64 ((i : Int) + 1))) B (.slice (some la0) ts.length lc) (i + 1) (c + 1) e0 q0 := hbr4.setI (i + 1)
  have hg5 : w4.grownBy (w4.setCell ⟨B, 1, none⟩ (.int .i64 ((i : Int) + 1))) (some B) := gB_set 1 _
  clear hbr4 hg4 hcs
  go_upto_region 6 with fail
  clear b0 b1 b2 b3 b4 f1 hwi
  generalize w4.setCell ⟨B, 1, none⟩ (.int .i64 ((i : Int) + 1)) = w5 at hbr5 hg5 ⊢
  have HT5 := Lib.hid ((hg5.block Tv (Array.getElem?_eq_some_iff.1 HT4.out).1 (fun e => by cases e; have h1 := HTV.out; have h2 := HZ1.out; have h3 := HBB.out; omega)).trans HT4.out)
  have HBR5 := Lib.hid hbr5
  have HG5 := Lib.hid hg5
  clear hbr5 hg5
  have k1 : w5.cell? ⟨Tv, 1, none⟩ = some (.string (str n)) := by rw [cell_of_row w5 _ 1 _ _ (0, 0) HT5.out]; rfl
  have k2 : w5.cell? ⟨Tv, 2, none⟩ = some (.slice ua ats.length uc) := by rw [cell_of_row w5 _ 2 _ _ (0, 0) HT5.out]; rfl
  obtain ⟨w6, hw6⟩ : ∃ w6, w6 = w5.alloc (.cells #[.string (str n), .slice ua ats.length uc, .slice none 0 0, .string ⟨#[]⟩] 26) := ⟨_, rfl⟩
  obtain ⟨N, hN⟩ : ∃ N, N = w5.heap.size := ⟨_, rfl⟩
  have hb6 : Below w5.heap.size w5 w6 := by rw [hw6]; exact (Below.refl _ _).alloc (Nat.le_refl _) _
  have hg26 : w.grownBy w6 (some B) := gB_trans (gB_below HB1.out) (gB_trans (gB_below HB2.out) (gB_trans (HG3.out) (gB_trans HG4.out (gB_trans HG5.out (gB_below hb6)))))
  have hs16 : w.heap.size + 2 ≤ w5.heap.size := by have h1 := HZ1.out; have h2 := HZ2.out; have h3 := HG3.out.size; have h4 := HG4.out.size; have h5 := HG5.out.size; omega
  have hR6 : w6.heap[Rv]? = some (.cells #[.string ⟨#[]⟩, .slice none 0 0, .slice none 0 0, .string ⟨#[]⟩] 26 (0, 0)) := by
    have hbB := HBB.out
    have hv := HRV.out
    have hz := HZ1.out
    have hz2 := HZ2.out
    have hs3 := HG3.out.size
    have hs4 := HG4.out.size
    have hne : ∀ {q : Nat}, q = Rv → some q ≠ some B := fun h e => by cases e; omega
    rw [hb6.block Rv (by omega), HG5.out.block Rv (by omega) (hne rfl), HG4.out.block Rv (by omega) (hne rfl), HG3.out.block Rv (by omega) (hne rfl), HB2.out.block Rv (by omega), HRV.out]
    exact HRR.out
  have HR6 := Lib.hid hR6
  have HT6 := Lib.hid ((hb6.block Tv (Array.getElem?_eq_some_iff.1 HT5.out).1).trans HT5.out)
  have HLP := Lib.hid (show Lp w w0 w6 w0.heap.size B N (.slice (some la0) ts.length lc) n (.slice ua ats.length uc) (.slice none 0 0) [] (fun _ => False) (i + 1) (c + 1) e0 q0 w6 from
    ⟨hg26, (hb6.block B HBR5.out.lt).trans HBR5.out, by rw [hN, hw6]; exact heap_alloc_new w5 _, World.ownsRow_nil _ _ _ _, (fun k hk => by cases hk), (fun b hb => hb.elim), (fun b _ _ => rfl), HB.out, HBB.out, by omega⟩)
  have HRT := Lib.hid (show w.heap.size ≤ Rv ∧ Rv < N ∧ w.heap.size ≤ Tv ∧ Tv < N by have h1 := HRV.out; have h2 := HTV.out; have h3 := HZ1.out; omega)
  have HN := Lib.hid hN
  have HW6 := Lib.hid hw6
  clear hb6 hg26 hs16 hR6 hN hw6
  go_upto_region 7 with fail
  rw [← HW6.out, ← HN.out]
  have HLI := Lib.hid (show LI nn ts st i c n ats k [] (i + 1) (c + 1) e0 q0 false from LI.start HX.out HK.out HCS.out HBAD.out)
  go_wp2_with fail
  go_loopw [9] (fun tx wr => ∃ (kds : List Kd) (F : Nat → Prop) (vk : Value) (j cc : Nat) (e q : Int) (fl : Bool), tx = .bool fl ∧ Lp w w0 w6 w0.heap.size B N (.slice (some la0) ts.length lc) n (.slice ua ats.length uc) vk kds F j cc e q wr ∧ LI nn ts st i c n ats k kds j cc e q fl) (fun _ wr => ts.length - jOf B wr)
  case atStart => exact ⟨[], _, _, i + 1, c + 1, e0, q0, false, rfl, HLP.out, HLI.out⟩
  case round =>
    obtain ⟨kds, F, vk, j, cc, e, q, fl, rfl, hlp, hli⟩ := hrel
    have hkdv : ∃ a z, vk = .slice a kds.length z := by
      rcases hlp.ow.2 with ⟨h1, h2⟩ | ⟨g, cap, cur, h1, _⟩
      · exact ⟨none, 0, by rw [h1, h2]⟩
      · exact ⟨some ⟨g, 0, none⟩, cap, h1⟩
    obtain ⟨ka, kc, rfl⟩ := hkdv
    have HLP := Lib.hid hlp
    have HLI := Lib.hid hli
    have HNX := Lib.hid (show n ≠ [] from hn9 _ (List.mem_of_getElem? HX.out) HK.out)
    have HJ := Lib.hid (show jOf B wr = j by unfold jOf; rw [hlp.br.cells.2.1]; simp)
    have HRV := Lib.hid ((hlp.kp Rv HRT.out.1 HRT.out.2.1).trans HR6.out)
    have HTR := Lib.hid ((hlp.kp Tv HRT.out.2.2.1 HRT.out.2.2.2).trans HT6.out)
    have HFN := Lib.hid (hlp.fin rfl HH0.out HATS.out ⟨HRT.out.1, HRT.out.2.1⟩ #[.string (str n), .slice ua ats.length uc, .slice ka kds.length kc, .string ⟨#[]⟩])
    have k0 : wr.cell? ⟨Tv, 0, none⟩ = some (.int .i64 k) := by rw [cell_of_row wr _ 0 _ _ (0, 0) HTR.out]; rfl
    obtain ⟨b0, b1, b2, b3, b4⟩ := hlp.br.cells
    obtain ⟨n0, n1, n2, n3⟩ := hlp.cells
    clear hlp hli
    by_cases hk1 : k = 1
    case neg =>
      have hkF : (k == 1) = false := by simpa using hk1
      have HS := Lib.hid (show Gr nn ts st i c (leaveG ⟨.mk n ats (kds.map (·.x)) [] :: st, none, cc⟩) j cc e q from by
        have := HLI.out.s
        unfold Sg at this
        rw [if_neg hk1] at this
        exact this)
      clear hk1
      go_wp2_with (first | (refine wpList_store_row rfl 26 _ _ rfl Rv #[.string (str n), .slice ua ats.length uc, .slice ka kds.length kc, .string ⟨#[]⟩] rfl rfl 26 _ HRV.out (by kernel_rfl) rfl (by simp [Value.oneCell']) ?_))
      refine bodyPost_ret (el_results _ _ Rv _ _ _ _ rfl (setRow_heap _ Rv _ _ _ _ HRV.out)) rfl ?_
      obtain ⟨F', q1, q2⟩ := HFN.out.2.1
      exact ⟨.mk n ats (kds.map (·.x)) [], .slice ua ats.length uc, .slice ka kds.length kc, F', j, cc, e, q, rfl, HFN.out.1, q1, q2, HFN.out.2.2, rfl, HNX.out, HLI.out.j1, HLI.out.j2, HS.out⟩
    case pos =>
    subst hk1
    by_cases he : e = 0
    case neg =>
      have heF : (e == 0) = false := by simpa using he
      have HS := Lib.hid (show Gr nn ts st i c (leaveG ⟨.mk n ats (kds.map (·.x)) [] :: st, none, cc⟩) j cc e q from by
        rcases HLI.out.s with h | h
        · exact absurd h.1 he
        · exact .inr h)
      clear he
      go_wp2_with (first | (refine wpList_store_row rfl 26 _ _ rfl Rv #[.string (str n), .slice ua ats.length uc, .slice ka kds.length kc, .string ⟨#[]⟩] rfl rfl 26 _ HRV.out (by kernel_rfl) rfl (by simp [Value.oneCell']) ?_))
      refine bodyPost_ret (el_results _ _ Rv _ _ _ _ rfl (setRow_heap _ Rv _ _ _ _ HRV.out)) rfl ?_
      obtain ⟨F', q1, q2⟩ := HFN.out.2.1
      exact ⟨.mk n ats (kds.map (·.x)) [], .slice ua ats.length uc, .slice ka kds.length kc, F', j, cc, e, q, rfl, HFN.out.1, q1, q2, HFN.out.2.2, rfl, HNX.out, HLI.out.j1, HLI.out.j2, HS.out⟩
    case pos =>
    subst he
    have hq0 := HLI.out.one.1
    have hcc := HLI.out.one.2.1
    subst hq0
    have hjl := HLI.out.j2
    by_cases hj : j < ts.length
    case neg =>
      have hjI : (ts.length : Int) ≤ (j : Int) := by omega
      have HLD := Lib.hid (fun nq => HLP.out.below (below_drewN (Below.refl _ _) nq))
      have HGR := Lib.hid (HLI.out.stop (by omega))
      go_upto_region 9 with fail
      go_quiet (fail)
      rename_i nq
      have HFL := Lib.hid (fail3_at (HLD.out nq).br 13 (nn : Int))
      have HLD2 := Lib.hid (HLD.out nq)
      clear b0 b1 b2 b3 b4 k0 n0 n1 n2 n3
      go_upto_region 11 with (go_at_call 25; refine HFL.out.mono ?_; rintro e w9 ⟨rfl, hbr9, hg9⟩)
      have HL9 := Lib.hid (HLD2.out.move hg9 hbr9)
      have HRV9 := Lib.hid ((HL9.out.kp Rv HRT.out.1 HRT.out.2.1).trans HR6.out)
      have HFN9 := Lib.hid (HL9.out.fin rfl HH0.out HATS.out ⟨HRT.out.1, HRT.out.2.1⟩ #[.string (str n), .slice ua ats.length uc, .slice ka kds.length kc, .string ⟨#[]⟩])
      obtain ⟨n0, n1, n2, n3⟩ := HL9.out.cells
      clear hbr9 hg9
      go_wp2_with (first | (refine wpList_store_row rfl 26 _ _ rfl Rv #[.string (str n), .slice ua ats.length uc, .slice ka kds.length kc, .string ⟨#[]⟩] rfl rfl 26 _ HRV9.out (by kernel_rfl) rfl (by simp [Value.oneCell']) ?_))
      refine bodyPost_ret (el_results _ _ Rv _ _ _ _ rfl (setRow_heap _ Rv _ _ _ _ HRV9.out)) rfl ?_
      obtain ⟨F', q1, q2⟩ := HFN9.out.2.1
      exact ⟨.mk n ats (kds.map (·.x)) [], .slice ua ats.length uc, .slice ka kds.length kc, F', j, cc, 13, (nn : Int), rfl, HFN9.out.1, q1, q2, HFN9.out.2.2, rfl, HNX.out, HLI.out.j1, HLI.out.j2, .inr ⟨by decide, nn, rfl, HGR.out⟩⟩
    case pos =>
    go_upto_region 9 with fail
    go_cut [73] from 64 to 74 (fun tt wx => tt = .bool false ∧ Below wr.heap.size wr wx)
    case first =>
      go_quiet (fail)
      go_wp2_with fail
      go_meet
      exact ⟨by rw [decide_eq_false (by omega)], below_drewN (Below.refl _ _) _⟩
    case rest =>
    obtain ⟨rfl, hbd⟩ := hcut
    obtain ⟨wd, hwd⟩ : ∃ v, v = wc := ⟨_, rfl⟩
    rw [← hwd] at hbd ⊢
    clear hwd b0 b1 b2 b3 b4 k0 n0 n1 n2 n3
    have HLD := Lib.hid (HLP.out.below hbd)
    obtain ⟨b0, b1, b2, b3, b4⟩ := HLD.out.br.cells
    clear hbd
    obtain ⟨y, hy⟩ : ∃ y, ts[j]? = some y := ⟨_, List.getElem?_eq_getElem hj⟩
    have hym : (ts.map (Tk.mem l))[j]? = some (y.mem l) := by rw [List.getElem?_map, hy]; rfl
    obtain ⟨la1, e1, ya, ⟨t0, t1, t2, t3, t4, t5, t6⟩, hyat⟩ := RdSl.elem hR hym
    cases e1
    obtain ⟨za, zc, rfl⟩ := RdSl.shape hyat
    have h0r : Below w0.heap.size w0 wd := gB_low HH0.out HH0.out.size HB.out HLD.out.g
    have hcell : ∀ {A : Addr} {u : Value}, w0.cell? A = some u → wd.cell? A = some u := fun h => (h0r.cell (World.block_lt_of_cell? w0 _ h)).trans h
    have t0 := hcell t0
    have t1 := hcell t1
    have t2 := hcell t2
    have t3 := hcell t3
    have t4 := hcell t4
    have t5 := hcell t5
    have t6 := hcell t6
    have hjI : (j : Int) < (ts.length : Int) := by omega
    have HY := Lib.hid hy
    have hn9y := hn9 y (List.mem_of_getElem? hy)
    have HN9 := Lib.hid hn9y
    clear hcell hym hy hyat hn9y
    dsimp only [Tk.mem] at t0 t1 t2 t3 t4 t5 t6
    obtain ⟨yk, yn, yats, yt, yo⟩ := y
    dsimp only at t0 t1 t2 t3 t4 t5 t6 HN9
    generalize lineS (List.take yo l) = LM at t5
    generalize colS (List.take yo l) = CM at t6
    obtain ⟨Kv, hKv⟩ : ∃ K, K = wd.heap.size := ⟨_, rfl⟩
    obtain ⟨w7, hw7⟩ : ∃ w7, w7 = (wd.alloc (.cells #[.int .i64 yk, .string (str yn), .slice za yats.length zc, .string (str yt), .int .i64 (yo : Int), .int .i64 LM, .int .i64 CM] 51)).drew := ⟨_, rfl⟩
    have hb7 : Below wd.heap.size wd w7 := by rw [hw7]; exact ((Below.refl _ _).alloc (Nat.le_refl _) _).drew
    have hK7 : w7.heap[Kv]? = some (.cells #[.int .i64 yk, .string (str yn), .slice za yats.length zc, .string (str yt), .int .i64 (yo : Int), .int .i64 LM, .int .i64 CM] 51 (0, 0)) := by rw [hw7, hKv]; exact heap_alloc_new wd _
    have hal : ∀ {A : Addr} {u : Value}, wd.cell? A = some u → (wd.alloc (.cells #[.int .i64 0, .string ⟨#[]⟩, .slice none 0 0, .string ⟨#[]⟩, .int .i64 0, .int .i64 0, .int .i64 0] 51)).cell? A = some u := fun h => (Below.cell ((Below.refl wd.heap.size wd).alloc (Nat.le_refl _) _) (World.block_lt_of_cell? wd _ h)).trans h
    have HB7 := Lib.hid hb7
    have HK7 := Lib.hid hK7
    have HW7 := Lib.hid hw7
    have HKV := Lib.hid hKv
    have HLP7 := Lib.hid (HLD.out.below hb7)
    clear hb7 hK7 hw7
    go_upto_region 12 with fail
    go_cut [10] from 78 to 88 (fun tt wx => tt = .pointer (some ⟨Kv, 0, none⟩) ∧ wx = w7)
    case first =>
      have s0 := hal t0
      have s1 := hal t1
      have s2 := hal t2
      have s3 := hal t3
      have s4 := hal t4
      have s5 := hal t5
      have s6 := hal t6
      have g0 := hal b0
      have g1 := hal b1
      clear hal
      go_region_law (fail)
      all_goals
        go_wp2_with fail
        go_meet
        exact ⟨by rw [HKV.out], HW7.out.symm⟩
    case rest =>
    clear hal t0 t1 t2 t3 t4 t5 t6 b0 b1 b2 b3 b4
    obtain ⟨rfl, hwx⟩ := hcut
    obtain rfl : w7 = wc := hwx.symm
    clear hwx hKv
    obtain ⟨b0, b1, b2, b3, b4⟩ := HLP7.out.br.cells
    obtain ⟨n0, n1, n2, n3⟩ := HLP7.out.cells
    have y0 : w7.cell? ⟨Kv, 0, none⟩ = some (.int .i64 yk) := by rw [cell_of_row w7 _ 0 _ _ (0, 0) HK7.out]; rfl
    have y1 : w7.cell? ⟨Kv, 1, none⟩ = some (.string (str yn)) := by rw [cell_of_row w7 _ 1 _ _ (0, 0) HK7.out]; rfl
    have y3 : w7.cell? ⟨Kv, 3, none⟩ = some (.string (str yt)) := by rw [cell_of_row w7 _ 3 _ _ (0, 0) HK7.out]; rfl
    have y4 : w7.cell? ⟨Kv, 4, none⟩ = some (.int .i64 (yo : Int)) := by rw [cell_of_row w7 _ 4 _ _ (0, 0) HK7.out]; rfl
    by_cases hyel : yk = 1 ∨ yk = 2
    · have hd64 := HLI.out.dk rfl
      have hstd := HST.out
      have HEL := Lib.hid (ih B j cc (d + 1) ⟨yk, yn, yats, yt, yo⟩ (.mk n ats (kds.map (·.x)) [] :: st) w7.drew (by have := HM.out; have := HLI.out.j1; omega) HY.out hyel (by rw [List.length_cons]; omega) (by omega) hcc HB.out (gB_low HH0.out HH0.out.size HB.out (HLP7.out.below (Below.refl _ _).drew).g) (HLP7.out.below (Below.refl _ _).drew).br)
      rw [show (((d + 1 : Nat)) : Int) = (d : Int) + 1 from rfl] at HEL
      have hwd : IntKind.i64.wrap ((d : Int) + 1) = (d : Int) + 1 := by rw [IntWalk.i64_in _ (by omega)]
      have HLPd := Lib.hid (HLP7.out.below (Below.refl _ _).drew)
      have HKN := Lib.hid (show kds.length ≤ 100000 by have := HLI.out.kn; omega)
      have hyk12 := hyel
      clear y1 y3 y4 hd64 hstd
      rcases hyk12 with hyk | hyk
      all_goals
        subst hyk
        go_upto_region 14 with fail
        first | (go_region_law (first
          | (go_simp; go_at_call 23; refine HEL.out.mono ?_; rintro r8 w8 ⟨x8, xa8, xk8, F8, j8, c8, e8, q8, rfl, hbr8, hn8, hF8, hg8, hxt8, hxn8, hj81, hj82, hgr8⟩; obtain ⟨xb, xc, xd, xe, rfl, rfl⟩ := node_cells hn8; unfold nodeV; have HL8 := Lib.hid (HLPd.out.move hg8 hbr8); have HN8 := Lib.hid hn8; have HF8 := Lib.hid hF8; have HX8 := Lib.hid (show x8.t = [] ∧ x8.n ≠ [] ∧ j < j8 ∧ j8 ≤ ts.length from ⟨hxt8, hxn8, hj81, hj82⟩); have HGR8 := Lib.hid hgr8; have z2 := HL8.out.cells.2.2.1; have z3 : (w8.alloc (.cells #[.string (str x8.n), .slice xb x8.ats.length xc, .slice xd x8.ks.length xe, .string (str x8.t)] 26)).cell? ⟨N, 2, none⟩ = some (.slice ka kds.length kc) := (Below.cell ((Below.refl w8.heap.size w8).alloc (Nat.le_refl _) _) (World.block_lt_of_cell? w8 _ z2)).trans z2; clear hbr8 hn8 hF8 hg8 hxt8 hxn8 hj81 hj82 hgr8)
          | (refine stepN (w2 := w8) (.tmp 97) (.tmp 103) rfl rfl ⟨x8, .slice xb x8.ats.length xc, .slice xd x8.ks.length xe⟩ w8.heap.size (by simp [Act.eval, Act.put]) (by simp [Act.eval, Act.put]) (by repeat (first | exact Below.refl _ _ | refine Below.drew ?_ | refine Below.alloc ?_ (by simp) _)) HL8.out.ow (heap_alloc_new _ _) rfl rfl HKN.out (Array.getElem?_eq_some_iff.1 HL8.out.nr).1 ?_; intro g1 q1 w9 ho9 hm9 hor9; have hn9 := HL8.out.nrow hm9; have f9 : w9.frozen? ⟨N, 2, none⟩ = false := frozen_of_row w9 N 2 _ _ hn9; have c9 : w9.cell? ⟨N, 2, none⟩ = some (.slice ka kds.length kc) := (by rw [cell_of_row w9 N 2 _ _ (0, 0) hn9]; rfl); clear hn9))) | fail "region 14"
        all_goals
          have HPU := Lib.hid (HL8.out.push (k := ⟨x8, .slice xb x8.ats.length xc, .slice xd x8.ks.length xe⟩) HN8.out (fun b hb => by
            obtain ⟨g1, g2⟩ := HF8.out b hb
            have hN7 := (Array.getElem?_eq_some_iff.1 HLP7.out.nr).1
            have hbd := HLP7.out.bd
            have g2 : b < w0.heap.size ∨ w7.heap.size ≤ b := g2
            refine ⟨g1, by omega, fun hq => ?_⟩
            have hq2 := HLP7.out.ow.lt b hq
            omega) ho9 hm9 hor9)
          have HLI8 := Lib.hid (HLI.out.kid (y := x8) (va := .slice xb x8.ats.length xc) (vk := .slice xd x8.ks.length xe) HX8.out.2.2.1 HX8.out.2.2.2 HX8.out.1 HX8.out.2.1 HGR8.out)
          have HME := Lib.hid (show ts.length - jOf B (w9.setCell ⟨N, 2, none⟩ (.slice (some ⟨g1, 0, none⟩) (kds.length + 1) q1)) < ts.length - jOf B wr by
            have e1 : jOf B (w9.setCell ⟨N, 2, none⟩ (.slice (some ⟨g1, 0, none⟩) (kds.length + 1) q1)) = j8 := by unfold jOf; rw [HPU.out.br.cells.2.1]; simp
            have h1 := HX8.out.2.2.1
            rw [e1, HJ.out]; omega)
          clear f9 c9 z2 z3 ho9 hm9 hor9 n0 n1 n2 n3 b0 b1 b2 b3 b4 y0
          go_wp2_with fail
          go_roundw
          case rel => exact ⟨_, _, _, j8, c8, e8, q8, false, rfl, HPU.out, HLI8.out⟩
          case measure => exact HME.out
    · have hy1F : (yk == 1) = false := by simp; omega
      have hy2F : (yk == 2) = false := by simp; omega
      have hwj : IntKind.i64.wrap ((j : Int) + 1) = (j : Int) + 1 := by rw [IntWalk.i64_in _ (by omega)]
      have f1 := HLP7.out.br.frozen 1
      have hbr8 : Br (w7.setCell ⟨B, 1, none⟩ (.int .i64 ((j : Int) + 1))) B (.slice (some la0) ts.length lc) (j + 1) cc 0 0 := HLP7.out.br.setI (j + 1)
      have hlp8 := HLP7.out.move (gB_set 1 (.int .i64 ((j : Int) + 1))) hbr8
      have hK8 : (w7.setCell ⟨B, 1, none⟩ (.int .i64 ((j : Int) + 1))).heap[Kv]? = w7.heap[Kv]? := heap_setCell_other w7 ⟨B, 1, none⟩ Kv _ (fun e => by simp only at e; have h1 := HKV.out; have h2 := HLD.out.br.lt; omega)
      rw [HK7.out] at hK8
      clear hbr8
      go_upto_region 17 with fail
      clear b0 b1 b2 b3 b4 n0 n1 n2 n3 y0 y1 y3 y4 f1 hwj
      generalize w7.setCell ⟨B, 1, none⟩ (.int .i64 ((j : Int) + 1)) = w8 at hlp8 hK8 ⊢
      have HLP8 := Lib.hid hlp8
      have HJ8 := Lib.hid (show ∀ wz F2 vk2 kds2 cc2 e2 q2, Lp w w0 w6 w0.heap.size B N (.slice (some la0) ts.length lc) n (.slice ua ats.length uc) vk2 kds2 F2 (j + 1) cc2 e2 q2 wz → ts.length - jOf B wz < ts.length - jOf B wr from fun wz F2 vk2 kds2 cc2 e2 q2 h => by
        have e1 : jOf B wz = j + 1 := by unfold jOf; rw [h.br.cells.2.1]; simp
        rw [e1, HJ.out]; omega)
      have HRV8 := Lib.hid ((hlp8.kp Rv HRT.out.1 HRT.out.2.1).trans HR6.out)
      obtain ⟨b0, b1, b2, b3, b4⟩ := hlp8.br.cells
      obtain ⟨n0, n1, n2, n3⟩ := hlp8.cells
      have y0 : w8.cell? ⟨Kv, 0, none⟩ = some (.int .i64 yk) := by rw [cell_of_row w8 _ 0 _ _ (0, 0) hK8]; rfl
      have y1 : w8.cell? ⟨Kv, 1, none⟩ = some (.string (str yn)) := by rw [cell_of_row w8 _ 1 _ _ (0, 0) hK8]; rfl
      have y3 : w8.cell? ⟨Kv, 3, none⟩ = some (.string (str yt)) := by rw [cell_of_row w8 _ 3 _ _ (0, 0) hK8]; rfl
      have y4 : w8.cell? ⟨Kv, 4, none⟩ = some (.int .i64 (yo : Int)) := by rw [cell_of_row w8 _ 4 _ _ (0, 0) hK8]; rfl
      have HK8 := Lib.hid hK8
      clear hlp8 hK8
      by_cases hy3 : yk = 3
      · have hy3T : (yk == 3) = true := by simp [hy3]
        by_cases hnn : n = yn
        · have hnE : ((str yn).toList == (str n).toList) = true := by rw [hnn]; simp
          have hnN : ((str yn).toList != (str n).toList) = false := by unfold bne; rw [hnE]; rfl
          have HCLO := Lib.hid (HLI.out.close HY.out hy3 hnn)
          have HFN8 := Lib.hid (HLP8.out.fin rfl HH0.out HATS.out ⟨HRT.out.1, HRT.out.2.1⟩ #[.string (str n), .slice ua ats.length uc, .slice ka kds.length kc, .string ⟨#[]⟩])
          have HJJ := Lib.hid (show i < j + 1 ∧ j + 1 ≤ ts.length by have := HLI.out.j1; omega)
          clear hnn hy3
          go_wp2_with (first | (refine wpList_store_row rfl 26 _ _ rfl Rv #[.string (str n), .slice ua ats.length uc, .slice ka kds.length kc, .string ⟨#[]⟩] rfl rfl 26 _ HRV8.out (by kernel_rfl) rfl (by simp [Value.oneCell']) ?_))
          refine bodyPost_ret (el_results _ _ Rv _ _ _ _ rfl (setRow_heap _ Rv _ _ _ _ HRV8.out)) rfl ?_
          obtain ⟨F', q1, q2⟩ := HFN8.out.2.1
          exact ⟨.mk n ats (kds.map (·.x)) [], .slice ua ats.length uc, .slice ka kds.length kc, F', j + 1, cc, 0, 0, rfl, HFN8.out.1, q1, q2, HFN8.out.2.2, rfl, HNX.out, HJJ.out.1, HJJ.out.2, .inl ⟨rfl, rfl, hcc, HCLO.out⟩⟩
        · have hnE : ((str yn).toList == (str n).toList) = false := by rw [beq_eq_false_iff_ne]; intro h; exact hnn (strEq.1 h).symm
          have hnN : ((str yn).toList != (str n).toList) = true := by unfold bne; rw [hnE]; rfl
          have HTAG := Lib.hid (HLI.out.tag HY.out hy3 hnn)
          have HFL := Lib.hid (fail3_at HLP8.out.br 14 (yo : Int))
          have HJJ := Lib.hid (show i < j + 1 ∧ j + 1 ≤ ts.length by have := HLI.out.j1; omega)
          clear hnn hy3
          go_upto_region 20 with (go_at_call 25; refine HFL.out.mono ?_; rintro e w9 ⟨rfl, hbr9, hg9⟩)
          have HL9 := Lib.hid (HLP8.out.move hg9 hbr9)
          have HRV9 := Lib.hid ((HL9.out.kp Rv HRT.out.1 HRT.out.2.1).trans HR6.out)
          have HFN9 := Lib.hid (HL9.out.fin rfl HH0.out HATS.out ⟨HRT.out.1, HRT.out.2.1⟩ #[.string (str n), .slice ua ats.length uc, .slice ka kds.length kc, .string ⟨#[]⟩])
          clear hbr9 hg9 b0 b1 b2 b3 b4 n0 n1 n2 n3 y0 y1 y3 y4
          obtain ⟨n0, n1, n2, n3⟩ := HL9.out.cells
          go_wp2_with (first | (refine wpList_store_row rfl 26 _ _ rfl Rv #[.string (str n), .slice ua ats.length uc, .slice ka kds.length kc, .string ⟨#[]⟩] rfl rfl 26 _ HRV9.out (by kernel_rfl) rfl (by simp [Value.oneCell']) ?_))
          refine bodyPost_ret (el_results _ _ Rv _ _ _ _ rfl (setRow_heap _ Rv _ _ _ _ HRV9.out)) rfl ?_
          obtain ⟨F', q1, q2⟩ := HFN9.out.2.1
          exact ⟨.mk n ats (kds.map (·.x)) [], .slice ua ats.length uc, .slice ka kds.length kc, F', j + 1, cc, 14, (yo : Int), rfl, HFN9.out.1, q1, q2, HFN9.out.2.2, rfl, HNX.out, HJJ.out.1, HJJ.out.2, .inr ⟨by decide, yo, rfl, HTAG.out⟩⟩
      have hy3F : (yk == 3) = false := by simpa using hy3
      by_cases hsk : yk ≠ 4 ∨ yt = []
      · have HLS := Lib.hid (HLI.out.skip HY.out (fun h => hyel (.inl h)) (fun h => hyel (.inr h)) hy3 hsk)
        clear hyel hy3
        by_cases hy4 : yk = 4
        · have hytE : ((str yt).toList == []) = true := by rw [emp3]; exact decide_eq_true (hsk.resolve_left (fun h => h hy4))
          have hy4T : (yk == 4) = true := by simp [hy4]
          have hy4N : (yk != 4) = false := by simp [hy4]
          clear hy4 hsk
          go_wp2_with fail
          go_roundw
          case rel => exact ⟨_, _, _, j + 1, cc, 0, 0, fl, rfl, HLP8.out, HLS.out⟩
          case measure => exact HJ8.out _ _ _ _ _ _ _ HLP8.out
        · have hy4T : (yk == 4) = false := by simp [hy4]
          have hy4N : (yk != 4) = true := by simp [hy4]
          clear hy4 hsk
          go_wp2_with fail
          go_roundw
          case rel => exact ⟨_, _, _, j + 1, cc, 0, 0, fl, rfl, HLP8.out, HLS.out⟩
          case measure => exact HJ8.out _ _ _ _ _ _ _ HLP8.out
      have hy4 : yk = 4 := by by_cases h : yk = 4; exact h; exact absurd (.inl h) hsk
      have hyt : yt ≠ [] := fun h => hsk (.inr h)
      have hytE : ((str yt).toList == []) = false := by rw [emp3]; exact decide_eq_false hyt
      have hy4T : (yk == 4) = true := by simp [hy4]
      have hy4N : (yk != 4) = false := by simp [hy4]
      have HYT := Lib.hid (And.intro hy4 hyt)
      clear hsk hyel hy3 hy4 hyt
      cases fl with
      | true =>
        obtain ⟨a, dk, rfl, hdn⟩ := HLI.out.last
        have hlen : (a ++ [dk]).length = a.length + 1 := by rw [List.length_append, List.length_singleton]
        rw [hlen] at HLP8 n2 HLP HLP7 HLD
        obtain ⟨g, hka⟩ : ∃ g, ka = some ⟨g, 0, none⟩ := by
          rcases HLP8.out.ow.2 with ⟨_, h2⟩ | ⟨g, cap, cur, h1, _⟩
          · rw [hlen] at h2; omega
          · simp only [Value.slice.injEq] at h1; exact ⟨g, h1.1⟩
        subst hka
        have hc3 : w8.cell? ⟨g, a.length * 4 + 3, none⟩ = some (.string (str dk.x.t)) := by
          have hh := HLP8.out.ow.cells (g := g) rfl (a.length * 4 + 3) (.string (str dk.x.t)) ((rowN_at (a ++ [dk]) a.length 3 dk (by simp) (by omega)).trans rfl)
          rw [show (⟨g, 0, none⟩ : Addr).add (a.length * 4 + 3) = ⟨g, a.length * 4 + 3, none⟩ by unfold Addr.add; split <;> simp_all] at hh
          exact hh
        have hfz : w8.frozen? ⟨g, a.length * 4 + 3, none⟩ = false := by
          rcases HLP8.out.ow.2 with ⟨h1, _⟩ | ⟨g', cap, cur, h1, _, h2, _⟩
          · cases h1
          · simp only [Value.slice.injEq, Option.some.injEq, Addr.mk.injEq] at h1
            rw [h1.1.1]; exact frozen_of_row w8 g' _ _ _ h2
        have hdt := HLI.out.kt dk (by simp)
        have hts := tS_succ HY.out
        have hts2 := tS_mono (ts := ts) (show j + 1 ≤ ts.length by omega)
        have hszI : ((str dk.x.t).size : Int) + ((str yt).size : Int) ≤ 1000000 := by rw [size_str, size_str]; dsimp only at hts; omega
        have HCAT := Lib.hid (show str dk.x.t ++ str yt = str (dk.x.t ++ yt) from app_str _ _)
        have HMG := Lib.hid (HLP8.out.merge (dk.x.t ++ yt))
        have HLM := Lib.hid (HLI.out.more hdn HY.out HYT.out.1 HYT.out.2)
        have hal1 : a.length ≤ 100000 := by have := HLI.out.kn; rw [hlen] at this; omega
        have hwl : IntKind.i64.wrap (((a.length + 1 : Nat) : Int) - 1) = (a.length : Int) := by rw [IntWalk.i64_in _ (by omega)]; omega
        have hwl2 : IntKind.i64.wrap ((a.length : Int) + 1 - 1) = (a.length : Int) := by rw [IntWalk.i64_in _ (by omega)]; omega
        generalize a.length = K at *
        have hKb : (K : Int) < (K : Int) + 1 := by omega
        have hwl3 : IntKind.i64.wrap (K : Int) = (K : Int) := by rw [IntWalk.i64_in _ (by omega)]
        have hKb2 : (K : Int) < ((K + 1 : Nat) : Int) := by omega
        have hKb3 : (K : Int) ≤ 100000 := by omega
        have hno : ¬ (9223372036854775807 < (str dk.x.t).size + (str yt).size) := by omega
        clear hdt hts hts2 hlen
        go_upto_region 23 with fail
        go_region_law (fail)
        all_goals
          rw [HCAT.out]
          go_wp2_with fail
          go_roundw
          case rel => exact ⟨_, _, _, j + 1, cc, 0, 0, true, rfl, HMG.out.below (Below.refl _ _).drew, HLM.out⟩
          case measure => exact HJ8.out _ _ _ _ _ _ _ (HMG.out.below (Below.refl _ _).drew)
      | false =>
        have hwcc : IntKind.i64.wrap ((cc : Int) + 1) = (cc : Int) + 1 := by rw [IntWalk.i64_in _ (by omega)]
        have f2 := HLP8.out.br.frozen 2
        have hbr9 : Br (w8.setCell ⟨B, 2, none⟩ (.int .i64 ((cc : Int) + 1))) B (.slice (some la0) ts.length lc) (j + 1) (cc + 1) 0 0 := HLP8.out.br.setC (cc + 1)
        have hlp9 := HLP8.out.move (gB_set 2 (.int .i64 ((cc : Int) + 1))) hbr9
        have hK9 : (w8.setCell ⟨B, 2, none⟩ (.int .i64 ((cc : Int) + 1))).heap[Kv]? = w8.heap[Kv]? := heap_setCell_other w8 ⟨B, 2, none⟩ Kv _ (fun e => by simp only at e; have h1 := HKV.out; have h2 := HLD.out.br.lt; omega)
        rw [HK8.out] at hK9
        clear hbr9
        go_upto_region 25 with fail
        clear b0 b1 b2 b3 b4 n0 n1 n2 n3 y0 y1 y3 y4 f2 hwcc
        generalize w8.setCell ⟨B, 2, none⟩ (.int .i64 ((cc : Int) + 1)) = w9 at hlp9 hK9 ⊢
        have HLP9 := Lib.hid hlp9
        have HK9 := Lib.hid hK9
        obtain ⟨b0, b1, b2, b3, b4⟩ := hlp9.br.cells
        have y4 : w9.cell? ⟨Kv, 4, none⟩ = some (.int .i64 (yo : Int)) := by rw [cell_of_row w9 _ 4 _ _ (0, 0) hK9]; rfl
        clear hlp9 hK9
        have HKv := Lib.hid (show w.heap.size ≤ Kv ∧ N < Kv ∧ Kv ≠ B ∧ ∀ b, (Value.slice ka kds.length kc).ownBlock = some b → b < Kv from ⟨by have h1 := HKV.out; have h2 := HLD.out.g.size; omega, by have h1 := HKV.out; have h2 := (Array.getElem?_eq_some_iff.1 HLD.out.nr).1; omega, by have h1 := HKV.out; have h2 := HLD.out.br.lt; omega, fun b hb => by have h1 := HKV.out; have h2 := (HLD.out.ow.lt b hb).2; omega⟩)
        obtain ⟨ov, hov⟩ : ∃ ov, ov = decide (4096 ≤ cc) := ⟨_, rfl⟩
        have HOV := Lib.hid hov
        go_cut [161] from 157 to 162 (fun tt wx => tt = .bool ov ∧ wx = w9)
        case first =>
          by_cases h2 : 4096 ≤ cc
          · have h2I : 4096 < (cc : Int) + 1 := by omega
            have hb1 : ov = true := by rw [hov]; exact decide_eq_true h2
            clear hov h2
            go_wp2_with fail
            go_meet
            exact ⟨by rw [hb1], rfl⟩
          · have h2I : ¬ 4096 < (cc : Int) + 1 := by omega
            have hb1 : ov = false := by rw [hov]; exact decide_eq_false h2
            clear hov h2
            go_wp2_with fail
            go_meet
            exact ⟨by rw [hb1], rfl⟩
        case rest =>
        obtain ⟨rfl, hwx⟩ := hcut
        obtain rfl : w9 = wc := hwx.symm
        clear hwx hov
        go_upto_if 161 with fail
        go_cut [] from 162 to 167 (fun wx => ∃ e q : Int, Lp w w0 w6 w0.heap.size B N (.slice (some la0) ts.length lc) n (.slice ua ats.length uc) (.slice ka kds.length kc) kds F (j + 1) (cc + 1) e q wx ∧ wx.heap[Kv]? = some (.cells #[.int .i64 yk, .string (str yn), .slice za yats.length zc, .string (str yt), .int .i64 (yo : Int), .int .i64 LM, .int .i64 CM] 51 (0, 0)) ∧ LI nn ts st i c n ats 1 (kds ++ [⟨.mk [] [] [] yt, .slice none 0 0, .slice none 0 0⟩]) (j + 1) (cc + 1) e q true)
        case first =>
          cases ov with
          | true =>
            have HLO := Lib.hid (HLI.out.over (va := .slice none 0 0) (vk := .slice none 0 0) HY.out HYT.out.1 HYT.out.2 (of_decide_eq_true HOV.out.symm))
            have HFL := Lib.hid (fail3_at HLP9.out.br 2 (yo : Int))
            go_wp2_with (go_at_call 25; refine HFL.out.mono ?_; rintro e w10 ⟨rfl, hbr10, hg10⟩)
            go_meet
            exact ⟨2, yo, HLP9.out.move hg10 hbr10, (hg10.block Kv (Array.getElem?_eq_some_iff.1 HK9.out).1 (fun e => by cases e; exact HKv.out.2.2.1 rfl)).trans HK9.out, HLO.out⟩
          | false =>
            have HLO := Lib.hid (HLI.out.text (va := .slice none 0 0) (vk := .slice none 0 0) HY.out HYT.out.1 HYT.out.2 (Nat.not_le.1 (of_decide_eq_false HOV.out.symm)))
            go_wp2_with fail
            go_meet
            exact ⟨0, 0, HLP9.out, HK9.out, HLO.out⟩
        case rest =>
        obtain ⟨e10, q10, hlp10, hK10, hli10⟩ := hcut
        obtain ⟨w10, hw10⟩ : ∃ v, v = wc := ⟨_, rfl⟩
        rw [← hw10] at hlp10 hK10 ⊢
        clear hw10 b0 b1 b2 b3 b4 y4
        have HLP10 := Lib.hid hlp10
        have HLI10 := Lib.hid hli10
        have n2 := hlp10.cells.2.2.1
        have y3 : w10.cell? ⟨Kv, 3, none⟩ = some (.string (str yt)) := by rw [cell_of_row w10 _ 3 _ _ (0, 0) hK10]; rfl
        clear hlp10 hK10 hli10
        have HKN := Lib.hid (show kds.length ≤ 100000 by have := HLI.out.kn; omega)
        obtain ⟨w11, hw11⟩ : ∃ v, v = w10.alloc (.cells #[.string ⟨#[]⟩, .slice none 0 0, .slice none 0 0, .string (str yt)] 26) := ⟨_, rfl⟩
        have HW11 := Lib.hid hw11
        obtain ⟨q11, hq11⟩ : ∃ v, v = w10.heap.size := ⟨_, rfl⟩
        have HQ11 := Lib.hid hq11
        have hb11 : Below w10.heap.size w10 w11 := by rw [hw11]; exact (Below.refl _ _).alloc (Nat.le_refl _) _
        have hr11 : w11.heap[q11]? = some (.cells #[.string ⟨#[]⟩, .slice none 0 0, .slice none 0 0, .string (str yt)] 26 (0, 0)) := by rw [hw11, hq11]; exact heap_alloc_new _ _
        have HB11 := Lib.hid hb11
        have HR11 := Lib.hid hr11
        have n2' : (w10.alloc (.cells #[.string ⟨#[]⟩, .slice none 0 0, .slice none 0 0, .string (str yt)] 26)).cell? ⟨N, 2, none⟩ = some (.slice ka kds.length kc) := by rw [← hw11]; exact (hb11.cell (World.block_lt_of_cell? w10 _ n2)).trans n2
        have HKNp := Lib.hid (fun (g1 : Nat) (q1 : Nat) (w12 : World) ho9 hm9 hor9 => HLP10.out.push (k := ⟨.mk [] [] [] yt, .slice none 0 0, .slice none 0 0⟩) (Fk := fun _ => False) (w7 := w12) (g := g1) (cap := q1) (NdV.leaf (.inl ⟨rfl, rfl⟩) (fun h => absurd rfl h)) (fun b hb => hb.elim) ho9 hm9 hor9)
        clear hw11 hq11 hb11 hr11
        go_upto_region 28 with (rw [← HW11.out, ← HQ11.out]; refine appE (w := w11) (w2 := w10) (.tmp 168) (.tmp 172) rfl rfl ⟨.mk [] [] [] yt, .slice none 0 0, .slice none 0 0⟩ q11 (by simp [Act.eval, Act.put]) (by simp [Act.eval, Act.put]) HB11.out HLP10.out.ow HR11.out rfl rfl HKN.out (Array.getElem?_eq_some_iff.1 HLP10.out.nr).1 ?_; intro g1 q1 w12 ho9 hm9 hor9; have HL12 := Lib.hid (HKNp.out g1 q1 w12 ho9 hm9 hor9); have hn9 := HLP10.out.nrow hm9; have f9 : w12.frozen? ⟨N, 2, none⟩ = false := frozen_of_row w12 N 2 _ _ hn9; have c9 : w12.cell? ⟨N, 2, none⟩ = some (.slice ka kds.length kc) := (by rw [cell_of_row w12 N 2 _ _ (0, 0) hn9]; rfl); clear hn9 ho9 hm9 hor9)
        clear n2 n2' y3 f9 c9
        go_wp2_with fail
        go_roundw
        case rel => exact ⟨_, _, _, j + 1, cc + 1, e10, q10, true, rfl, HL12.out, HLI10.out⟩
        case measure => exact HJ8.out _ _ _ _ _ _ _ HL12.out
end
end Go.Proofs.YtpbkidmdfibaoaaGreatDoor
