/-
  Layer 2: the answer's All: the same as All's. Own work.
-/
import Derived.Test.YtldgjiohigiioaaRf2h
import Derived.Test.YtldgjiohigiioaaAll2b
import Derived.Test.YtldgjiohigiioaaRise2
namespace Go.Proofs.Ytldgjiohigiioaa
set_option linter.unusedVariables false
set_option linter.unusedSimpArgs false
open Go.RowKit

/-- on the way through a text: the reader in X, the tokens so far in v -/
structure B2 (w : World) (X : Nat) (l r : List UInt8) (acc : List (Tm × Value)) (v : Value) (wk : World) : Prop where
  rr : RR wk X l r 0 0
  b : Below w.heap.size w wk
  o : wk.ownsRow (X + 1) 34 7 v acc.length (rowTs acc)
  a : ∀ p ∈ acc, wk.ownsRow (X + 1) 46 2 p.2 p.1.ats.length (rowAs p.1.ats)
  n : w.heap.size ≤ X
section
variable {w wk wk' : World} {X : Nat} {l r r' : List UInt8} {acc : List (Tm × Value)} {v : Value}
theorem B2.mv (h : B2 w X l r acc v wk) (hm : RM X l r' 0 0 wk wk') : B2 w X l r' acc v wk' := by
  have hn := h.n
  exact ⟨hm.1, h.b.trans ⟨hm.2.os, hm.2.tape, hm.2.output, hm.2.size, fun k hk => hm.2.block k (by have := h.b.size; omega) (by simp; omega)⟩,
    own_x h.o hm.2 (by omega), fun p hp => own_x (h.a p hp) hm.2 (by omega), h.n⟩
theorem B2.below (h : B2 w X l r acc v wk) (hb : Below wk.heap.size wk wk') : B2 w X l r acc v wk' := h.mv (RM.below h.rr hb)
theorem B2.push {v' va : Value} {x : Tm} (h : B2 w X l r acc v wk) (hva : wk.ownsRow (X + 1) 46 2 va x.ats.length (rowAs x.ats)) (ho : wk'.ownsRow (X + 1) 34 7 v' (acc.length + 1) (rowTs acc ++ tmL x va)) (hg : wk.grownBy wk' v.ownBlock) :
    B2 w X l r (acc ++ [(x, va)]) v' wk' := by
  have hn := h.n
  have hlt : ∀ q, v.ownBlock = some q → X + 1 ≤ q := fun q hq => (h.o.lt q hq).1
  have hX := h.rr.lt
  have hb : Below (X + 1) wk wk' := (Below.refl _ _).grown hg (by omega) hlt
  refine ⟨⟨h.rr.1, (hb.block X (by omega)).trans h.rr.2⟩, h.b.trans (hb.mono (by omega)), ?_, ?_, h.n⟩
  · rw [List.length_append, List.length_singleton, rowTs_snoc]
    exact ho
  · intro p hp
    rcases List.mem_append.1 hp with hp | hp
    · exact (h.a p hp).kept hg (own_types (h.a p hp) h.o (by decide))
    · rw [List.mem_singleton] at hp
      subst hp
      exact hva.kept hg (own_types hva h.o (by decide))
theorem B2.rd (h : B2 w X l r acc v wk) : RdTs wk v (acc.map (·.1)) := RdTs.of_own h.o fun p hp => RdAs.of_own (h.a p hp)
end
/-- a token behind a row of one's own -/
theorem appT2 {ops : Array Oper} {rest : List Oper} {o : Oper} {a : Act} {Q : Exit → Act → World → Prop} {w0 : World} (p : Tm) (va : Value) (hva : va.oneCell' = true) (hgd : o.guard = none) (s x : Operand)
    (ho : o.op = .call { callee := .builtin .append, args := #[s, x], argTypes := #[23, 23] }) (base n : Nat)
    (v : Value) (xs : List Value) (hs : a.eval s = v) (hown : w0.ownsRow base 34 7 v n xs) (hx : a.eval x = .slice (some ⟨w0.heap.size, 0, none⟩) 1 1)
    (h63 : n ≤ 10000000) (hbase : base ≤ w0.heap.size)
    (h : ∀ v' w', w'.ownsRow base 34 7 v' (n + 1) (xs ++ tmL p va) → w0.grownBy w' v.ownBlock → wpList Try.prog ops Q rest (a.put o.dst v') w') :
    wpList Try.prog ops Q (o :: rest) a (w0.alloc (.cells #[.int .i64 p.k, .string (str p.n), va, .string (str p.t), .int .i64 p.po, .int .i64 p.pl, .int .i64 p.pc] 34)) := by
  obtain ⟨i, hi, hz, hsize, hby⟩ := info_parts token_info
  refine wpList_append_own _ hgd s x _ ho base 34 i _ 7 88 Try.underlying23 hi hz hsize hby rfl (by omega) v n xs hs (hown.alloc _) ⟨w0.heap.size, 0, none⟩ 1 1 (tmL p va) hx rfl ?_ ?_ (by simp only [maxLen]; omega) (by omega) (by simp; omega) ?_
  · intro j y hj
    rw [show (⟨w0.heap.size, 0, none⟩ : Addr).add j = ⟨w0.heap.size, j, none⟩ by unfold Addr.add; split <;> simp_all, World.cell?_alloc_at _ _ _ _ rfl]
    simpa [tmL] using hj
  · intro u hu
    simp only [tmL, List.mem_cons, List.not_mem_nil, or_false] at hu
    rcases hu with rfl | rfl | rfl | rfl | rfl | rfl | rfl <;> first | rfl | exact hva
  · intro v' w' ho' hg _
    exact h v' w' ho' ⟨hg.os, hg.tape, hg.output, Nat.le_trans (by simp) hg.size, fun k hk hne => (hg.block k (by simp; omega) hne).trans (Below.heap_alloc _ _ _ hk)⟩
theorem nx_two {X : Nat} {l r : List UInt8} {w w' : World} {e : Ending} (h : NxQ X l r w e w') :
    (∃ c r2 k n a m q t p0 p1 p2 r', pieceM (l.length - r.length) r = .bad c r2 ∧ e = .returned (.agg (tkC k n (.slice a m q) t p0 p1 p2)) ∧ RM X l r' c ((l.length - r2.length : Nat) : Int) w w') ∨
      ∃ x r5 va, pieceM (l.length - r.length) r = .ok x r5 ∧ e = .returned (.agg (tmL (x.mem l) va).toArray) ∧ RM X l r5 0 0 w w' ∧ w'.ownsRow w.heap.size 46 2 va x.ats.length (rowAs x.ats) := by
  unfold NxQ at h
  cases hM : pieceM (l.length - r.length) r with
  | bad e5 r5 => simp only [hM] at h; obtain ⟨⟨k, n, a, m, q, t, p0, p1, p2, he⟩, r', hm⟩ := h; exact .inl ⟨e5, r5, k, n, a, m, q, t, p0, p1, p2, r', rfl, he, hm⟩
  | ok x r5 => simp only [hM] at h; obtain ⟨hm, va, rfl, ho⟩ := h; exact .inr ⟨x, r5, va, rfl, rfl, hm, ho⟩
/-- what the answer's All leaves -/
def RAllP (l : List UInt8) (w : World) (e : Ending) (w' : World) : Prop :=
  Below w.heap.size w w' ∧ match allM l with
    | .ok ts _ => ∃ v, e = .returned (.tuple #[v, .int .i64 0, .int .i64 0]) ∧ RdTs w' v (ts.map (Tk.mem l))
    | .bad c r => e = .returned (.tuple #[.slice none 0 0, .int .i64 c, .int .i64 ((l.length - r.length : Nat) : Int)])
set_option maxRecDepth 100000 in
set_option maxHeartbeats 8000000 in
theorem refAll_any (l : List UInt8) (hl : l.length ≤ 1000000) (w : World) :
    Calls Try.prog 13 #[.string (str l)] w (RAllP l w) := by
  have HSZ := Lib.hid (size_str l)
  by_cases hbig : 65536 < l.length
  · have hbI : (65536 : Int) < ((str l).size : Int) := by rw [size_str]; omega
    have HM := Lib.hid (show allM l = .bad 2 l by unfold allM; rw [if_pos hbig])
    clear hbig
    go_enter Try.func13, Try.ntmps13
    go_wp2
    go_ret3
    refine ⟨Below.refl _ _, ?_⟩
    rw [HM.out]
    simp
  have HGO := Lib.hid (show allM l = goM l (l.length + 1) [] l by unfold allM; rw [if_neg hbig])
  have hbI : ((str l).size : Int) ≤ 65536 := by rw [size_str]; omega
  obtain ⟨w1, hw1⟩ : ∃ w1, w1 = w.alloc (.cells #[.string (str l), .int .i64 0, .int .i64 0, .int .i64 0] 63) := ⟨_, rfl⟩
  have HB := Lib.hid (show B2 w w.heap.size l l [] (.slice none 0 0) w1 from ⟨⟨List.suffix_refl _, by rw [hw1, Nat.sub_self]; exact heap_alloc_new w _⟩, by rw [hw1]; exact (Below.refl _ _).alloc (Nat.le_refl _) _, World.ownsRow_nil _ _ _ _, by simp, Nat.le_refl _⟩)
  have HW1 := Lib.hid hw1
  clear hw1 hbig
  go_enter Try.func13, Try.ntmps13
  go_upto_region 4 with fail
  rw [← HW1.out]
  obtain ⟨X, hX⟩ : ∃ X, X = w.heap.size := ⟨_, rfl⟩
  rw [← hX] at HB
  simp only [← hX]
  clear hX
  go_wp2_with fail
  go_loopw [6] (fun v wr => ∃ ts acc r' f, r'.length < f ∧ goM l f ts r' = allM l ∧ acc.map (·.1) = ts.map (Tk.mem l) ∧ acc.length + r'.length ≤ l.length ∧ B2 w X l r' acc v wr) (fun _ wr => l.length - offR X wr)
  case atStart => exact ⟨[], [], l, l.length + 1, by omega, HGO.out.symm, rfl, by simp, HB.out⟩
  case round =>
    obtain ⟨ts, acc, r', f, hf, hmod, hmap, hlen, hb2⟩ := hrel
    obtain ⟨g, hg⟩ : ∃ g, f = g + 1 := ⟨f - 1, by omega⟩
    subst hg
    have HMOD := Lib.hid hmod
    have HMAP := Lib.hid hmap
    have HLEN := Lib.hid hlen
    have HG := Lib.hid hf
    have HB2 := Lib.hid hb2
    have HLL' := Lib.hid (suf_len hb2.rr.1)
    have HOFF := Lib.hid hb2.rr.off
    obtain ⟨va0, vc0, hv⟩ := RdSl.shape hb2.rd
    rw [List.length_map] at hv
    subst hv
    obtain ⟨c0, c1, c2, c3⟩ := hb2.rr.cells
    clear hf hmod hmap hlen hb2
    cases r' with
    | nil =>
      have hlt : decide (((l.length - ([] : List UInt8).length : Nat) : Int) < ((str l).size : Int)) = false := decide_eq_false (by rw [HSZ.out]; simp)
      have hnI : ¬ (((l.length - ([] : List UInt8).length : Nat) : Int) < ((str l).size : Int)) := by rw [HSZ.out]; simp
      have HFIN := Lib.hid (show allM l = .ok ts [] by rw [← HMOD.out, goM, if_pos rfl])
      generalize l.length - ([] : List UInt8).length = n at c1 hlt hnI
      go_wp2
      go_ret3
      refine ⟨HB2.out.b, ?_⟩
      rw [HFIN.out]
      exact ⟨_, rfl, by rw [← HMAP.out]; exact HB2.out.rd⟩
    | cons c r' =>
      have hlt : ((l.length - (c :: r').length : Nat) : Int) < ((str l).size : Int) := by
        have := HLL'.out
        rw [HSZ.out]; simp only [List.length_cons] at this ⊢; omega
      have HNX := Lib.hid ((next_at X l c r' hl wr HB2.out.rr).mono fun e w' h => nx_two h)
      have HP := Lib.hid (show (pieceM (l.length - (c :: r').length) (c :: r')).bind (fun t r1 => goM l g (ts ++ [t]) r1) = allM l by rw [← HMOD.out, goM, if_neg (by simp)])
      generalize hno : l.length - (c :: r').length = n at c1 hlt HNX HP HOFF
      have HNO := Lib.hid hno
      clear hno
      go_wp2_with fail
      refine HNX.out.mono ?_
      rintro e w5 (⟨e5, r2, k, n5, a5, m5, q5, t5, p0, p1, p2, r5, hM, rfl, hm⟩ | ⟨x, r5, va, hM, rfl, hm, hown⟩)
      · have HFIN := Lib.hid (show allM l = .bad e5 r2 by rw [← HP.out, hM]; rfl)
        have HE5 := Lib.hid (ne_piece _ _ _ _ hM)
        have hgr := hm.2
        have hbm : Below w.heap.size w w5 := HB2.out.b.trans ⟨hgr.os, hgr.tape, hgr.output, hgr.size, fun k hk => hgr.block k (by have := HB2.out.b.size; omega) (by have := HB2.out.n; simp; omega)⟩
        obtain ⟨w6, hw6⟩ : ∃ w6, w6 = w5.alloc (.cells (tkC k n5 (.slice a5 m5 q5) t5 p0 p1 p2) 34) := ⟨_, rfl⟩
        have hb56 : Below w5.heap.size w5 w6 := by rw [hw6]; exact (Below.refl _ _).alloc (Nat.le_refl _) _
        have hr6 := hm.1.below hb56
        have HB6 := Lib.hid (hbm.trans (hb56.mono hbm.size))
        have HW6 := Lib.hid hw6
        clear c0 c1 c2 c3 hM hm hgr hbm hb56 hw6 HNX
        have hne : (e5 != 0) = true := by simpa using HE5.out
        obtain ⟨c0, c1, c2, c3⟩ := hr6.cells
        clear hr6
        go_upto_region 7 with fail
        rw [← HW6.out]
        go_upto_region 8 with fail
        go_quiet (fail)
        go_wp2
        go_ret3
        refine ⟨below_drewN HB6.out _, ?_⟩
        rw [HFIN.out]
        rfl
      · have HNX2 := Lib.hid (show goM l g (ts ++ [x]) r5 = allM l by rw [← HP.out, hM]; rfl)
        have HL5 := Lib.hid (piece_is hM).1.length_le
        have HB5 := Lib.hid (HB2.out.mv hm)
        have HO5 := Lib.hid (own_mono2 hown (show X + 1 ≤ wr.heap.size from HB2.out.rr.lt))
        obtain ⟨ta, tc, hva⟩ := RdSl.shape (RdAs.of_own hown)
        subst hva
        obtain ⟨w6, hw6⟩ : ∃ w6, w6 = w5.alloc (.cells #[.int .i64 x.k, .string (str x.n), .slice ta x.ats.length tc, .string (str x.t), .int .i64 (x.o : Int), .int .i64 (lineS (l.take x.o)), .int .i64 (colS (l.take x.o))] 34) := ⟨_, rfl⟩
        have hb56 : Below w5.heap.size w5 w6 := by rw [hw6]; exact (Below.refl _ _).alloc (Nat.le_refl _) _
        have hrow6 : w6.heap[w5.heap.size]? = some (.cells #[.int .i64 x.k, .string (str x.n), .slice ta x.ats.length tc, .string (str x.t), .int .i64 (x.o : Int), .int .i64 (lineS (l.take x.o)), .int .i64 (colS (l.take x.o))] 34 (0, 0)) := by rw [hw6]; exact heap_alloc_new w5 _
        have HB6 := Lib.hid (HB5.out.below hb56)
        have HO6 := Lib.hid (own_belowG HO5.out hb56)
        have HW6 := Lib.hid hw6
        clear c0 c1 c2 c3 hM hm hown hb56 hw6 HNX hlt
        obtain ⟨c0, c1, c2, c3⟩ := HB6.out.rr.cells
        have HROW := Lib.hid hrow6
        clear hrow6
        simp only [tmL, Tk.mem]
        go_upto_region 7 with fail
        rw [← HW6.out]
        generalize w5.heap.size = TB at HROW ⊢
        generalize hpl : lineS (l.take x.o) = pl at HROW ⊢
        generalize hpc : colS (l.take x.o) = pc at HROW ⊢
        have HPL := Lib.hid hpl
        have HPC := Lib.hid hpc
        clear hpl hpc
        have z0 : w6.cell? ⟨TB, 0, none⟩ = some (.int .i64 x.k) := by rw [cell_of_row w6 _ 0 _ _ (0, 0) HROW.out]; rfl
        have z1 : w6.cell? ⟨TB, 1, none⟩ = some (.string (str x.n)) := by rw [cell_of_row w6 _ 1 _ _ (0, 0) HROW.out]; rfl
        have z2 : w6.cell? ⟨TB, 2, none⟩ = some (.slice ta x.ats.length tc) := by rw [cell_of_row w6 _ 2 _ _ (0, 0) HROW.out]; rfl
        have z3 : w6.cell? ⟨TB, 3, none⟩ = some (.string (str x.t)) := by rw [cell_of_row w6 _ 3 _ _ (0, 0) HROW.out]; rfl
        have z4 : w6.cell? ⟨TB, 4, none⟩ = some (.int .i64 (x.o : Int)) := by rw [cell_of_row w6 _ 4 _ _ (0, 0) HROW.out]; rfl
        have z5 : w6.cell? ⟨TB, 5, none⟩ = some (.int .i64 pl) := by rw [cell_of_row w6 _ 5 _ _ (0, 0) HROW.out]; rfl
        have z6 : w6.cell? ⟨TB, 6, none⟩ = some (.int .i64 pc) := by rw [cell_of_row w6 _ 6 _ _ (0, 0) HROW.out]; rfl
        have hown6 := HB6.out.o
        have h100 : acc.length ≤ 10000000 := by
          have h1 := HLEN.out
          omega
        have hbase : X + 1 ≤ w6.heap.size := HB6.out.rr.lt
        go_wp2_with (first
          | (refine appT2 ⟨x.k, x.n, x.ats, x.t, (x.o : Int), pl, pc⟩ (.slice ta x.ats.length tc) rfl rfl _ _ rfl (X + 1) acc.length _ _ rfl hown6 rfl h100 hbase ?_; intro v' w7 ho7 hg7))
        have HB7 := Lib.hid (HB6.out.push (x := x.mem l) HO6.out (by simp only [Tk.mem, HPL.out, HPC.out]; exact ho7) hg7)
        have HLEN2 := Lib.hid (show r5.length < g ∧ (acc ++ [(x.mem l, (.slice ta x.ats.length tc : Value))]).length + r5.length ≤ l.length ∧ r5.length < (c :: r').length by
          have h1 := HLEN.out
          have h2 := HG.out
          have h3 := HL5.out
          simp only [List.length_append, List.length_cons, List.length_nil] at h1 h2 h3 ⊢
          omega)
        clear hown6 h100 hbase ho7 hg7
        go_wp2
        go_roundw
        case rel => exact ⟨ts ++ [x], acc ++ [(x.mem l, .slice ta x.ats.length tc)], r5, g, HLEN2.out.1, HNX2.out, by rw [List.map_append, List.map_append, HMAP.out]; rfl, HLEN2.out.2.1, HB7.out⟩
        case measure =>
          rw [HOFF.out, HB7.out.rr.off, ← HNO.out]
          have h1 := HLEN2.out.2.2
          have h2 := HLL'.out
          have h3 := suf_len HB7.out.rr.1
          omega
end Go.Proofs.Ytldgjiohigiioaa
