/-
  Layer 16: isTaken and take. Own work.
-/
import Derived.Test.YtmiiclhhenepiaaCk16
namespace Go.Proofs.Ytmiiclhhenepiaa
set_option linter.unusedVariables false
set_option linter.unusedSimpArgs false
open Go.RowKit Go.WideElems Go.MapKept

section
variable {w w' : World} {n0 : Nat} {M : Mm} {S : St} {ex : Tg → Prop}
theorem KS.cell (h : KS w n0 M S ex) (hx : ¬ ex .top) (i : Nat) : w.cell? ⟨M.K, i, none⟩ = (M.cells S)[i]? := cell_of_row w M.K i _ _ (0, 0) (h.top hx)
theorem KS.froz (h : KS w n0 M S ex) (hx : ¬ ex .top) (i : Nat) : w.frozen? ⟨M.K, i, none⟩ = false := frozen_of_row w M.K i _ _ (h.top hx)
end
theorem int16_info : (Try.prog.info? 3).map (fun i => (i.zero, i.size, i.bytes)) = some (some (.int .i64 0), 1, 8) := by kernel_rfl
theorem row16_info : (Try.prog.info? 31).map (fun i => (i.zero, i.size, i.bytes)) = some (some (.slice none 0 0), 1, 24) := by kernel_rfl
/-- one number more behind a row of numbers -/
theorem appI {ops : Array Oper} {rest : List Oper} {o : Oper} {a : Act} {Q : Exit → Act → World → Prop} (hgd : o.guard = none) (s x : Operand)
    (ho : o.op = .call { callee := .builtin .append, args := #[s, x], argTypes := #[31, 31] }) (w2 : World) (u : Nat) {base n : Nat} {v : Value} {xs : List Value} (hsv : a.eval s = v) (hx : a.eval x = .slice (some ⟨w2.heap.size, 0, none⟩) 1 1)
    (hown : w2.ownsRow base 3 1 v n xs) (hn : n ≤ 1000000) (hbase : base ≤ w2.heap.size)
    (hK : ∀ g cap w', w'.ownsRow base 3 1 (.slice (some ⟨g, 0, none⟩) (n + 1) cap) (n + 1) (xs ++ [cv u]) → w2.grownBy w' v.ownBlock → (v.ownBlock = some g ∨ (w2.heap.size ≤ g ∧ g < w'.heap.size)) → wpList Try.prog ops Q rest (a.put o.dst (.slice (some ⟨g, 0, none⟩) (n + 1) cap)) w') :
    wpList Try.prog ops Q (o :: rest) a (w2.alloc (.cells #[.int .i64 (u : Int)] 3)) := by
  obtain ⟨i, hi, hz, hsize, hby⟩ := info_parts int16_info
  refine wpList_append_lies _ hgd s x 31 ho base 3 i _ 1 8 Try.underlying31 hi hz hsize hby rfl (by omega) v n xs hsv (hown.alloc _) ⟨w2.heap.size, 0, none⟩ 1 1 [cv u] hx rfl (cell_one_new w2 _ _) (by simp [Value.oneCell', cv]) (by omega) (by simp only [maxLen]; omega) (by omega) (by simp; omega) _ rfl ?_
  intro g cap w' h2 h3 h4 h5
  refine hK g cap w' h2 ⟨h3.os, h3.tape, h3.output, Nat.le_trans (by simp) h3.size, fun k hk hne => (h3.block k (by simp; omega) hne).trans (Below.heap_alloc _ _ _ hk)⟩ ?_
  rcases h4 with h4 | h4
  · exact .inl h4
  · exact .inr ⟨by rw [h4]; simp, (h2.lt g rfl).2⟩
/-- .. at a step of a region that draws -/
theorem step_appI {ops : Array Oper} {E : Prop} {o : Oper} {a : Act} {K : Act → World → Prop} {Q : Exit → Act → World → Prop} (hgd : o.guard = none) (s x : Operand)
    (ho : o.op = .call { callee := .builtin .append, args := #[s, x], argTypes := #[31, 31] }) (w2 : World) (u : Nat) {base n : Nat} {v : Value} {xs : List Value} (hsv : a.eval s = v) (hx : a.eval x = .slice (some ⟨w2.heap.size, 0, none⟩) 1 1)
    (hown : w2.ownsRow base 3 1 v n xs) (hn : n ≤ 1000000) (hbase : base ≤ w2.heap.size)
    (hK : ∀ g cap w', w'.ownsRow base 3 1 (.slice (some ⟨g, 0, none⟩) (n + 1) cap) (n + 1) (xs ++ [cv u]) → w2.grownBy w' v.ownBlock → (v.ownBlock = some g ∨ (w2.heap.size ≤ g ∧ g < w'.heap.size)) → K (a.put o.dst (.slice (some ⟨g, 0, none⟩) (n + 1) cap)) w') :
    if Region.wanted o (yielded ops a.tmps) = true then Oper.wp Try.prog o a (w2.alloc (.cells #[.int .i64 (u : Int)] 3)) K Q else E := by
  obtain ⟨i, hi, hz, hsize, hby⟩ := info_parts int16_info
  refine step_append_lies _ hgd s x 31 ho base 3 i _ 1 8 Try.underlying31 hi hz hsize hby rfl (by omega) v n xs hsv (hown.alloc _) ⟨w2.heap.size, 0, none⟩ 1 1 [cv u] hx rfl (cell_one_new w2 _ _) (by simp [Value.oneCell', cv]) (by omega) (by simp only [maxLen]; omega) (by omega) (by simp; omega) _ rfl ?_
  intro g cap w' h2 h3 h4 h5
  refine hK g cap w' h2 ⟨h3.os, h3.tape, h3.output, Nat.le_trans (by simp) h3.size, fun k hk hne => (h3.block k (by simp; omega) hne).trans (Below.heap_alloc _ _ _ hk)⟩ ?_
  rcases h4 with h4 | h4
  · exact .inl h4
  · exact .inr ⟨by rw [h4]; simp, (h2.lt g rfl).2⟩
/-- one row more behind a row of rows -/
theorem appR {ops : Array Oper} {rest : List Oper} {o : Oper} {a : Act} {Q : Exit → Act → World → Prop} (hgd : o.guard = none) (s x : Operand)
    (ho : o.op = .call { callee := .builtin .append, args := #[s, x], argTypes := #[22, 22] }) (w2 : World) (ua : Option Addr) (un uc : Nat) {base n : Nat} {v : Value} {xs : List Value} (hsv : a.eval s = v) (hx : a.eval x = .slice (some ⟨w2.heap.size, 0, none⟩) 1 1)
    (hown : w2.ownsRow base 31 1 v n xs) (hn : n ≤ 1000000) (hbase : base ≤ w2.heap.size)
    (hK : ∀ g cap w', w'.ownsRow base 31 1 (.slice (some ⟨g, 0, none⟩) (n + 1) cap) (n + 1) (xs ++ [.slice ua un uc]) → w2.grownBy w' v.ownBlock → (v.ownBlock = some g ∨ (w2.heap.size ≤ g ∧ g < w'.heap.size)) → wpList Try.prog ops Q rest (a.put o.dst (.slice (some ⟨g, 0, none⟩) (n + 1) cap)) w') :
    wpList Try.prog ops Q (o :: rest) a (w2.alloc (.cells #[.slice ua un uc] 31)) := by
  obtain ⟨i, hi, hz, hsize, hby⟩ := info_parts row16_info
  refine wpList_append_lies _ hgd s x 22 ho base 31 i _ 1 24 Try.underlying22 hi hz hsize hby rfl (by omega) v n xs hsv (hown.alloc _) ⟨w2.heap.size, 0, none⟩ 1 1 [.slice ua un uc] hx rfl (cell_one_new w2 _ _) (by simp [Value.oneCell']) (by omega) (by simp only [maxLen]; omega) (by omega) (by simp; omega) _ rfl ?_
  intro g cap w' h2 h3 h4 h5
  refine hK g cap w' h2 ⟨h3.os, h3.tape, h3.output, Nat.le_trans (by simp) h3.size, fun k hk hne => (h3.block k (by simp; omega) hne).trans (Below.heap_alloc _ _ _ hk)⟩ ?_
  rcases h4 with h4 | h4
  · exact .inl h4
  · exact .inr ⟨by rw [h4]; simp, (h2.lt g rfl).2⟩
set_option maxRecDepth 100000 in
set_option maxHeartbeats 4000000 in
theorem isTaken_any {w : World} {n0 : Nat} {M : Mm} {S : St} {ex : Tg → Prop} (h : KS w n0 M S ex) (h1 : ¬ ex .top) (h2 : ¬ ex .tak) (x : Nat) (hx : x ≤ 1000000) :
    Calls Try.prog 26 #[.pointer (some ⟨M.K, 0, none⟩), .int .i64 (x : Int)] w fun e w' => e = .returned (.bool (S.tk x)) ∧ w.grownBy w' none := by
  have hl := (h.tak h2).look hx
  have hc : w.cell? ⟨M.K, 1, none⟩ = some (.map (some M.bT)) := h.cell h1 1
  go_enter Try.func26, Try.ntmps26
  go_wp2
  go_ret
  exact ⟨rfl, World.grownBy_alloc _ _ _⟩
/-- a literal is taken -/
def takeS (S : St) (x : Nat) : St := if S.tk x then S else { S with tk := onT S.tk x, trail := S.trail ++ [x] }
def tkT : Tg → Prop := fun t => t = .top ∨ t = .tak ∨ t = .trl
set_option maxRecDepth 100000 in
set_option maxHeartbeats 4000000 in
theorem take_any {w : World} {n0 : Nat} {M : Mm} {S : St} {ex : Tg → Prop} (h : KS w n0 M S ex) (h1 : ¬ ex .top) (h2 : ¬ ex .tak) (h3 : ¬ ex .trl) (x : Nat) (hx : x < 2 * S.vs.length) (hv : S.vs.length ≤ 100000) (htl : S.trail.length ≤ 1000000) :
    Calls Try.prog 27 #[.pointer (some ⟨M.K, 0, none⟩), .int .i64 (x : Int)] w fun e w' => e = .returned (.tuple #[]) ∧ ∃ M', KS w' n0 M' (takeS S x) ex ∧ Frm M M' tkT w w' ∧ M'.rw = M.rw ∧ M'.lv = M.lv ∧ M'.vl = M.vl := by
  have HT := Lib.hid (isTaken_any h h1 h2 x (by omega))
  go_enter Try.func27, Try.ntmps27
  go_wp2_with fail
  refine HT.out.mono ?_
  rintro e w1 ⟨rfl, hg⟩
  have H1 := Lib.hid (h.keep0 hg)
  have HF1 := Lib.hid (show Frm M M tkT w w1 from Frm.of hg (fun b hb => by cases hb))
  clear h hg HT
  cases htk : S.tk x with
  | true =>
    go_wp2
    go_end0
    refine ⟨rfl, M, ?_, HF1.out, rfl, rfl, rfl⟩
    unfold takeS
    rw [if_pos htk]
    exact H1.out
  | false =>
    have hc1 : w1.cell? ⟨M.K, 1, none⟩ = some (.map (some M.bT)) := H1.out.cell h1 1
    obtain ⟨w2, hu, hs2, hg2⟩ := (H1.out.tak h2).add hx (by omega)
    have hk2 := H1.out.keep (ex' := orT ex .tak) hg2 (fun t _ hx => hx.elim .inl (fun ⟨b, hb, ht⟩ => .inr (by rw [← ht, ← Option.some.inj hb, H1.out.tT])))
    have HF2 := Lib.hid (show Frm M M tkT w1 w2 from Frm.of hg2 (fun b hb => by rw [← Option.some.inj hb, H1.out.tT]; exact .inr (.inl rfl)))
    have H2 := Lib.hid (hk2.fillTak hs2)
    have hn1 : ∀ t, ¬ ex t → ¬ noTg (orT ex .tak) .tak t := fun t h3 h4 => h4.1.elim h3 h4.2
    have hc2 : w2.cell? ⟨M.K, 4, none⟩ = some M.vt := H2.out.cell (hn1 _ h1) 4
    have ho2 := H2.out.trl (hn1 _ h3)
    have hb2 := H2.out.base
    have HTK := Lib.hid htk
    clear hs2 hg2 hk2 htk
    go_wp2_with (at_builtin
                 refine appI rfl _ _ rfl w2 x (by rfl) (by rfl) ho2 htl hb2 ?_)
    intro g cap w3 ho3 hg3 hat3
    obtain ⟨f, hk3, hf1, hf2, hf3⟩ := H2.out.grow (v' := .slice (some ⟨g, 0, none⟩) (S.trail.length + 1) cap) (t := .trl) (by simp) hg3 H2.out.tt (hat3.elim (fun e => .inl e.symm) (fun e => .inr ⟨g, rfl, e⟩))
    have hn3 : ¬ orT (noTg (orT ex .tak) .tak) .trl .top := fun h => h.elim (hn1 _ h1) (by simp)
    have hc3 : w3.cell? ⟨M.K, 4, none⟩ = some M.vt := hk3.cell hn3 4
    have hfr3 : w3.frozen? ⟨M.K, 4, none⟩ = false := hk3.froz hn3 4
    have hT : takeS S x = { S with tk := onT S.tk x, trail := S.trail ++ [x] } := by unfold takeS; rw [if_neg (by rw [HTK.out]; simp)]
    have H4 := Lib.hid (hk3.trail (tr := S.trail ++ [x]) hn3 (v' := .slice (some ⟨g, 0, none⟩) (S.trail.length + 1) cap) (by rw [List.length_append, List.map_append]; exact ho3) hf1)
    have HF3 := Lib.hid (show Frm M { M with tag := f } tkT w2 w3 from ⟨hg3.os, hg3.tape, hg3.output, hg3.size, fun b hb hn => hg3.block b hb (fun e => hn (by rw [H2.out.tt b e.symm]; exact .inr (.inr rfl))), hf2, rfl, rfl, rfl, rfl⟩)
    have HF4 := Lib.hid (show Frm { M with tag := f } { M with tag := f, vt := .slice (some ⟨g, 0, none⟩) (S.trail.length + 1) cap } tkT w3 (w3.setCell ⟨M.K, 4, none⟩ (.slice (some ⟨g, 0, none⟩) (S.trail.length + 1) cap)) from
      ⟨rfl, rfl, rfl, by simp, fun b hb hn => heap_setCell_other w3 _ b _ (fun e => hn (by rw [e]; exact .inl hk3.tK)), fun _ _ => rfl, rfl, rfl, rfl, rfl⟩)
    have HT := Lib.hid hT
    clear ho2 ho3 hg3 hat3 hk3 hf1 hf2 hf3 hT hb2 hc2 hu
    go_wp2
    go_end0
    refine ⟨rfl, { M with tag := f, vt := .slice (some ⟨g, 0, none⟩) (S.trail.length + 1) cap }, ?_, ((HF1.out.trans HF2.out).trans HF3.out).trans HF4.out, rfl, rfl, rfl⟩
    rw [HT.out]
    exact H4.out.less (fun t ht => ht.1.elim (fun h => h.1.elim id (fun e => absurd e h.2)) (fun e => absurd e ht.2))
end Go.Proofs.Ytmiiclhhenepiaa
