/-
  Layer 10: prop.Over. Own work.
-/
import Derived.Test.YthfholnnkdoagaaBck8
import Derived.RangeFuncWrites
import Derived.RangeFuncMany
import Derived.Maps.OwnIn
import Derived.Maps.AppendAt
namespace Go.Proofs.Ythfholnnkdoagaa
set_option linter.unusedVariables false
set_option linter.unusedSimpArgs false
open Go.RowKit Go.Shelf
attribute [local go_sem] Oper.semAt_some

theorem run_makeMap_n {t k e : TypeId} (n : Int) (w : World) (ht : Try.prog.underlying t = some (.map k e)) : (Instr.makeMap t (some (.int .i64 n))).run Try.prog w = .ok (.map (some w.heap.size)) (w.alloc (.map #[] 0)) := by
  unfold Instr.makeMap
  simp only [Sem.run_bind, run_underlying ht, Result.andThen_ok]
  rfl
theorem heap_kept10 {X Y : World} {row : Option Nat} {b : Nat} {cs : Array Value} {t : TypeId} (h : X.heap[b]? = some (.cells cs t (0, 0))) (hg : X.grownBy Y row) (hr : ∀ r, row = some r → ∃ o : Obj, X.heap[r]? = some o ∧ o.isCells = false) : Y.heap[b]? = some (.cells cs t (0, 0)) :=
  (hg.block b (Array.getElem?_eq_some_iff.1 h).1 (fun e => by
    obtain ⟨o, h1, h2⟩ := hr b e.symm
    rw [h] at h1
    cases h1
    cases h2)).trans h
theorem Places.kind {w : World} {b n : Nat} {f : ByteArray → Option Nat} (h : Places w b n f) : ∃ o : Obj, w.heap[b]? = some o ∧ o.isCells = false := by
  obtain ⟨D, ⟨es, clock, h1, _⟩, _⟩ := h
  exact ⟨_, h1, rfl⟩
theorem own_kind10 {w : World} {b B e size m : Nat} {v : Value} {xs : List Value} (ho : w.ownsRow B e size v m xs) (h : ∃ o : Obj, w.heap[b]? = some o ∧ o.isCells = false) : v.ownBlock = none ∨ v.ownBlock ≠ some b := by
  obtain ⟨o, h1, h2⟩ := h
  rcases ho.2 with ⟨rfl, _⟩ | ⟨g, cap, cur, rfl, _, hg, _⟩
  · exact .inl rfl
  · refine .inr (fun hb => ?_)
    simp [Value.ownBlock] at hb
    subst hb
    rw [h1] at hg
    cases hg
    cases h2
theorem own_ne_kind {v : Value} {b : Nat} (h : v.ownBlock = none ∨ v.ownBlock ≠ some b) : some b ≠ v.ownBlock := by
  rcases h with h | h
  · rw [h]; simp
  · exact h.symm
theorem set_names (o : List Pr) (i : Nat) (p : Pr) (v t : ByteArray) (h : o[i]? = some p) : (o.set i ⟨p.n, v⟩).findIdx? (fun q => eqS q.n t) = o.findIdx? (fun q => eqS q.n t) := by
  induction o generalizing i with
  | nil => simp at h
  | cons q o ih =>
    cases i with
    | zero =>
      simp only [List.getElem?_cons_zero, Option.some.injEq] at h
      subst h
      simp [List.findIdx?_cons]
    | succ i =>
      rw [List.set_cons_succ, List.findIdx?_cons, List.findIdx?_cons, ih i (by simpa using h)]
theorem app_names {o : List Pr} {x : Pr} {f : ByteArray → Option Nat} (hf : ∀ t, f t = o.findIdx? (fun p => eqS p.n t)) (h : f x.n = none) (t : ByteArray) : putF f x.n o.length t = (o ++ [x]).findIdx? (fun p => eqS p.n t) := by
  unfold putF
  rw [List.findIdx?_append]
  by_cases e : eqS x.n t = true
  · rw [if_pos e]
    have := eqS_iff.1 e
    subst this
    rw [← hf, h]
    simp [e]
  · rw [if_neg e, hf]
    cases o.findIdx? (fun p => eqS p.n t) with
    | none => simp [List.findIdx?_cons, e]
    | some i => rfl
def OvP (l : List Pr) (w : World) (e : Ending) (w' : World) : Prop := ∃ v, e = .returned v ∧ w'.ownsRow w.heap.size 33 2 v l.length (rowPr l) ∧ Below w.heap.size w w'
set_option maxRecDepth 100000 in
set_option maxHeartbeats 8000000 in
theorem Over_any (l m : List Pr) (va vb : Value) (w0 w : World) (ha : RdPs w0 va l) (hb : RdPs w0 vb m) (h0 : Below w0.heap.size w0 w) (hl : l.length ≤ 10000) (hm : m.length ≤ 10000)
    (hka : ∀ p ∈ l, p.n.size ≤ maxLen) (hkb : ∀ p ∈ m, p.n.size ≤ maxLen) :
    Calls Try.prog 20 #[va, vb] w (OvP (over l m) w) := by
  obtain ⟨aa, ac, rfl⟩ := RdSl.shape ha
  obtain ⟨ba, bc, rfl⟩ := RdSl.shape hb
  have hlI : (l.length : Int) ≤ 10000 := by omega
  have hmI : (m.length : Int) ≤ 10000 := by omega
  have HA0 := Lib.hid ha
  have HB0 := Lib.hid hb
  have H0 := Lib.hid h0
  have HKA := Lib.hid hka
  have HKB := Lib.hid hkb
  have HCL := Lib.hid (CloneP_any (.slice aa l.length ac) l.length (rowPr l) w ((RdPs.raw ha).below h0 (Nat.le_refl _)) (by omega))
  have HBK := Lib.hid (fun w => Backward_any aa l.length ac w)
  clear ha hb h0 hka hkb
  have hmm := fun (n : Int) (w : World) => run_makeMap_n (t := 63) n w Try.underlying63
  refine (callsIn_wide (n := 3)).1 (callsIn_of_wp_marks Try.func20 rfl trivial ?_ rfl)
  simp only [Try.ntmps20, List.size_toArray, List.length_cons, List.length_nil, Nat.reduceAdd, Nat.reduceSub, Array.replicate_succ, Array.replicate_zero, List.push_toArray, List.append_toArray, List.nil_append, List.cons_append]
  refine wpIn_wide.2 ?_
  go_wp2_with fail
  refine HCL.out.mono ?_
  rintro e w2 ⟨v2, rfl, hown, hb2⟩
  have HOWN := Lib.hid hown
  have HB2 := Lib.hid hb2
  obtain ⟨v2a, v2c, rfl⟩ := RdSl.shape (RdPs.of_own hown)
  clear hown hb2 HCL
  go_upto_region 3 with fail
  obtain ⟨MB, hMB⟩ : ∃ b, b = w2.heap.size := ⟨_, rfl⟩
  have hpl0 := Places.made w2
  have hpl : Places ((w2.alloc (.map #[] 0)).alloc (.cells #[.map (some w2.heap.size)] 63)) w2.heap.size 0 (fun _ => none) := hpl0.below ((Below.refl _ _).alloc (Nat.le_refl _) _)
  have hbm : Below w2.heap.size w2 ((w2.alloc (.map #[] 0)).alloc (.cells #[.map (some w2.heap.size)] 63)) := ((Below.refl w2.heap.size w2).alloc (Nat.le_refl _) _).alloc (by simp) _
  have hA : ((w2.alloc (.map #[] 0)).alloc (.cells #[.map (some w2.heap.size)] 63)).heap[w2.heap.size + 1]? = some (.cells #[.map (some w2.heap.size)] 63 (0, 0)) := by
    have := heap_alloc_new (w2.alloc (.map #[] 0)) (.cells #[.map (some w2.heap.size)] 63)
    simpa using this
  have hsz : ((w2.alloc (.map #[] 0)).alloc (.cells #[.map (some w2.heap.size)] 63)).heap.size = w2.heap.size + 2 := by simp
  generalize ((w2.alloc (.map #[] 0)).alloc (.cells #[.map (some w2.heap.size)] 63)) = w3 at hpl hbm hA hsz ⊢
  rw [← hMB] at hpl hbm hA hsz ⊢
  have HMB := Lib.hid (show w.heap.size ≤ MB by rw [hMB]; exact HB2.out.size)
  have HMB2 := Lib.hid hMB
  have HBM := Lib.hid hbm
  have HAR := Lib.hid hA
  have HPL := Lib.hid hpl
  have hBs := heap_alloc_new w3 (.cells #[.slice aa l.length ac] 27)
  have hb4 : Below w3.heap.size w3 (w3.alloc (.cells #[.slice aa l.length ac] 27)) := (Below.refl _ _).alloc (Nat.le_refl _) _
  have HBS := Lib.hid hBs
  have HB4 := Lib.hid hb4
  have HSZ := Lib.hid hsz
  have hsz4 : (w3.alloc (.cells #[.slice aa l.length ac] 27)).heap.size = w3.heap.size + 1 := by simp
  have HSZ4 := Lib.hid hsz4
  clear hmm hpl0 hpl hbm hA hsz hMB hBs hb4 hsz4
  go_wp2_with fail
  refine (HBK.out _).mono ?_
  rintro e w4 ⟨rfl, hw4⟩
  rw [← hw4] at HBS HB4 HSZ4
  clear hw4 HBK
  generalize hBB : w3.heap.size = Bs at HBS HB4 HSZ HSZ4 ⊢
  have HBB := Lib.hid hBB
  clear hBB
  go_wp2_with fail
  have HW04 := Lib.hid (((H0.out.trans ((HB2.out.trans (HBM.out.mono HMB.out)).mono H0.out.size)).trans (HB4.out.mono (by rw [HSZ.out]; have := H0.out.size; have := HMB.out; omega))))
  have HB24 := Lib.hid (HBM.out.trans (HB4.out.mono (by rw [HSZ.out]; omega)))
  have hs4 : w4.heap.size = MB + 3 := by rw [HSZ4.out, HSZ.out]
  have HS4 := Lib.hid hs4
  have HBS2 := Lib.hid (show Bs = MB + 2 from HSZ.out)
  have hI : OwnFrom w4.heap.size (fun (pre : List Pl) W => W.heap[MB + 1]? = some (.cells #[.map (some MB)] 63 (0, 0)) ∧ W.heap[Bs]? = some (.cells #[.slice aa l.length ac] 27 (0, 0)) ∧ Places W MB pre.length (plF pre) ∧ Below MB w2 W) :=
    fun s X Y row hs hg hr => ⟨heap_kept10 hs.1 hg (fun r e => (hr r e).2), heap_kept10 hs.2.1 hg (fun r e => (hr r e).2), hs.2.2.1.kept hg (fun e => by have := (hr _ e.symm).1; omega), hs.2.2.2.grown hg (by have := hs.2.2.1.lt; omega) (fun k e => by have := (hr k e).1; omega)⟩
  have HIO := Lib.hid hI
  clear hs4 hI
  refine wpIn_wide.1 (wpIn_rangeFunc_ownH (F := Fence.wide) (n := 3) rfl (by omega) (gf := 45) (lb := #[.pointer (some ⟨Bs, 0, none⟩)]) rfl trivial (enters_of Try.func45 (by kernel_rfl) rfl)
    (encs := fun x : Pl => #[.int .i64 (x.1.1 : Int), .agg #[.string x.1.2.n, .string x.1.2.v]]) (Kp := KpB MB Bs) (S := fun ys => ys.length ≤ l.length ∧ ∀ t, plF ys t = l.findIdx? (fun p => eqS p.n t)) (Sp := fun _ => True) (N := l.length) (w0 := w4)
    (fun lo J Jx W hW hJ hJx hY h0 => back1_in Fence.wide (3 - 1) trivial rfl (by omega) lo Bs MB _ l w0 HA0.out (by have := H0.out.size; have := HMB.out; omega) (by omega) HKA.out J Jx hY W (HW04.out.trans (hW.mono HW04.out.size)) ((hW.block Bs (by rw [HS4.out, HBS2.out]; omega)).trans HBS.out) h0)
    kpB_t (kpB_b (m := w4.heap.size) (by rw [HS4.out]; omega)) (Below.refl _ _) (fun _ => rfl) _ (fun _ _ _ => False) HIO.out (fun _ _ _ _ _ hs _ _ => hs)
    ⟨(HB4.out.block _ (by rw [HBS2.out]; omega)).trans HAR.out, HBS.out, HPL.out.below (by rw [HBB.out]; exact HB4.out), HB24.out⟩
    (fun x a' W => ∃ Bx, MB < Bx ∧ W.heap[Bx]? = some (.cells #[.string x.1.2.n, .string x.1.2.v] 33 (0, 0)) ∧ a' = { tmps := #[.slice aa l.length ac, .slice ba m.length bc, undef, undef, .slice none 0 0, .slice v2a l.length v2c, .pointer (some ⟨MB + 1, 0, none⟩), .int .i64 (x.1.1 : Int), .pointer (some ⟨Bx, 0, none⟩), undef, undef, undef, undef, .slice aa l.length ac, .slice v2a l.length v2c, .slice aa l.length ac, .int .i64 (l.length : Int), .map (some MB), .slice aa l.length ac, .func (.func 45) #[] #[.pointer (some ⟨Bs, 0, none⟩)], .int .i64 (x.1.1 : Int), .agg #[.string x.1.2.n, .string x.1.2.v], undef, undef, undef, undef, undef, undef, undef, undef, undef, undef, undef, undef, undef, undef, undef, undef, undef, undef, undef, undef, undef, undef, undef, undef, undef, undef, undef, undef, undef, undef, undef, undef, undef, undef, undef, undef], defers := [] })
    (fun x a' s X Y row hs hg hr => by obtain ⟨Bx, h1, h2, h3⟩ := hs; exact ⟨Bx, h1, heap_kept10 h2 hg (fun r e => (hr r e).2), h3⟩)
    ?assign ?body ?done ?stop)
  case assign =>
    intro lo pre x W K hi hK
    gi_wp2
    exact hK _ _ ((KeepsOthers.alloc _ _).from _) ⟨(Below.refl _ _).alloc (by have := hi.2.2.1.lt; omega) _, fun cs t hc => heap_kept10 hc (World.grownBy_alloc W _ none) (fun r e => by cases e)⟩ (HIO.out.alloc _ hi) ⟨W.heap.size, hi.2.2.1.lt, heap_alloc_new W _, rfl⟩
  case body =>
    rintro lo pre x a' W hl ⟨r, hr⟩ ⟨hA, hB, hpl, hbw⟩ ⟨Bx, hBx, bX, rfl⟩ hlt
    have a0 : W.cell? ⟨MB + 1, 0, none⟩ = some (.map (some MB)) := by rw [cell_of_row W (MB + 1) 0 _ _ (0, 0) hA]; rfl
    have b0 : W.cell? ⟨Bx, 0, none⟩ = some (.string x.1.2.n) := by rw [cell_of_row W Bx 0 _ _ (0, 0) bX]; rfl
    obtain ⟨w5, hrun, hpl5, hg5⟩ := hpl.update (t := x.1.2.n) (m := x.1.1) x.2.2 (by omega) x.2.1
    have HA := Lib.hid hA
    have HB := Lib.hid hB
    have HP := Lib.hid hpl
    have HBW := Lib.hid hbw
    clear hA hB hbw bX hr
    gi_wp2
    exact ⟨KeepsFrom.of_grownBy hg5 (fun j e => by cases e; rw [HS4.out]; omega), ⟨(Below.refl MB W).grown hg5 (Nat.le_of_lt HP.out.lt) (fun k e => by cases e; exact Nat.le_refl _), fun cs t hc => (hg5.block Bs (Array.getElem?_eq_some_iff.1 hc).1 (by rw [HBS2.out]; simp)).trans hc⟩,
      (hg5.block (MB + 1) (Array.getElem?_eq_some_iff.1 HA.out).1 (by simp)).trans HA.out, (hg5.block Bs (Array.getElem?_eq_some_iff.1 HB.out).1 (by rw [HBS2.out]; simp)).trans HB.out, by rw [List.length_append, plF_snoc]; exact hpl5, HBW.out.grown hg5 (Nat.le_of_lt HP.out.lt) (fun k e => by cases e; exact Nat.le_refl _)⟩
  case done =>
    rintro D ys W hD hS ⟨hA, hB, hpl, hbw⟩ hK
    clear hB
    go_wp2_with fail
    obtain ⟨f0, hf0⟩ : ∃ f0, f0 = plF ys := ⟨_, rfl⟩
    have hfl : ∀ t, f0 t = l.findIdx? (fun p => eqS p.n t) := fun t => by rw [hf0]; exact hS.2 t
    have HFL := Lib.hid hfl
    have HPLy := Lib.hid (show ∃ n, n ≤ 10000 ∧ Places W MB n f0 from ⟨ys.length, by have := hS.1; omega, by rw [hf0]; exact hpl⟩)
    have HOWy := Lib.hid (own_below10 HOWN.out (show Below w2.heap.size w2 W by rw [← HMB2.out]; exact hbw))
    have HBWy := Lib.hid (HB2.out.trans (hbw.mono HMB.out))
    have HDL := Lib.hid (show MB < D by have := HS4.out; omega)
    have HKy := Lib.hid hK
    have HAy := Lib.hid hA
    clear hS hA hpl hbw hK hD hf0 hfl
    go_loopw [5, 28] (fun v i wr => ∃ (k n : Nat) (f : ByteArray → Option Nat), k ≤ m.length ∧ i = .int .i64 k ∧ wr.ownsRow w.heap.size 33 2 v (over l (m.take k)).length (rowPr (over l (m.take k))) ∧ n ≤ 10000 + k ∧ Places wr MB n f ∧ (∀ t, f t = (over l (m.take k)).findIdx? (fun p => eqS p.n t)) ∧
      wr.heap[MB + 1]? = some (.cells #[.map (some MB)] 63 (0, 0)) ∧ wr.heap[D]? = some (.deferred (some [])) ∧ Below w.heap.size w wr) (fun _ i _ => m.length - (intOf i).toNat)
    case atStart =>
      obtain ⟨n, hn, hp⟩ := HPLy.out
      exact ⟨0, n, f0, by omega, rfl, HOWy.out, by omega, hp, HFL.out, HAy.out, HKy.out, HBWy.out⟩
    case round =>
      obtain ⟨k, n, f, hk, rfl, hown, hn, hpl, hf, hA, hK, hbw⟩ := hrel
      have HF := Lib.hid hf
      have HOW := Lib.hid hown
      have HPL := Lib.hid hpl
      have HA := Lib.hid hA
      have HK := Lib.hid hK
      have HBW := Lib.hid hbw
      have HBR0 := Lib.hid (H0.out.trans (hbw.mono H0.out.size))
      have hol : (over l (m.take k)).length ≤ 20000 := by
        have h1 := over_len (m.take k) l
        have h2 := List.length_take_le k m
        omega
      have HOL := Lib.hid hol
      by_cases hlt : k < m.length
      · obtain ⟨x, hx⟩ : ∃ x, m[k]? = some x := ⟨_, List.getElem?_eq_getElem hlt⟩
        obtain ⟨a1, e1, p0, p1⟩ := RdSl.elem (HB0.out.below HBR0.out (Nat.le_refl _)) hx
        subst e1
        have HST := Lib.hid (over_step (l := l) hx)
        have hxn := HKB.out x (List.mem_of_getElem? hx)
        generalize ho : over l (m.take k) = o at hown hf hol HF HOW HOL HST
        have hbb : Below wr.heap.size wr (wr.alloc (.cells #[.string x.n, .string x.v] 33)) := (Below.refl _ _).alloc (Nat.le_refl _) _
        have hnew := heap_alloc_new wr (.cells #[.string x.n, .string x.v] 33)
        have HBB := Lib.hid hbb
        have HXN := Lib.hid hxn
        have HHN := Lib.hid hn
        have hML := hpl.lt
        clear hbb hx hown hf hpl hA hK hbw ho hol hxn hn
        go_upto_region 10 with fail
        generalize wr.alloc (.cells #[.string x.n, .string x.v] 33) = wb at hnew HBB ⊢
        obtain ⟨KB, hKB⟩ : ∃ b, b = wr.heap.size := ⟨_, rfl⟩
        rw [← hKB] at hnew hML ⊢
        have HN := Lib.hid hnew
        have HML := Lib.hid hML
        have HAb := Lib.hid ((HBB.out.block (MB + 1) (Array.getElem?_eq_some_iff.1 HA.out).1).trans HA.out)
        have HKb := Lib.hid ((HBB.out.block D (Array.getElem?_eq_some_iff.1 HK.out).1).trans HK.out)
        have HPb := Lib.hid (HPL.out.below HBB.out)
        have HOb := Lib.hid (own_below10 HOW.out HBB.out)
        have HBb := Lib.hid (HBW.out.trans (HBB.out.mono HBW.out.size))
        have a0 : wb.cell? ⟨MB + 1, 0, none⟩ = some (.map (some MB)) := by rw [cell_of_row wb (MB + 1) 0 _ _ (0, 0) HAb.out]; rfl
        have r0 : wb.cell? ⟨KB, 0, none⟩ = some (.string x.n) := by rw [cell_of_row wb KB 0 _ _ (0, 0) hnew]; rfl
        have r1 : wb.cell? ⟨KB, 1, none⟩ = some (.string x.v) := by rw [cell_of_row wb KB 1 _ _ (0, 0) hnew]; rfl
        have hlook := HPb.out.look HXN.out
        clear hKB hnew hML p0 p1 HAy HKy HPLy HOWy HBWy HFL
        cases hfx : f x.n with
        | none =>
          rw [hfx] at hlook
          dsimp only [Option.getD, Option.isSome] at hlook
          obtain ⟨va, vc, hve⟩ := RdSl.shape (RdPs.of_own HOb.out)
          subst hve
          obtain ⟨w5, hrun, hpl5, hg5⟩ := HPb.out.update (m := o.length) HXN.out (by have := HHN.out; omega) (by have := HOL.out; omega)
          have HP5 := Lib.hid hpl5
          have HG5 := Lib.hid hg5
          have HFX := Lib.hid hfx
          have HNK := Lib.hid (show some KB ≠ some MB by have := HML.out; simp; omega)
          have HO5 := Lib.hid (HOb.out.kept hg5 (own_kind10 HOb.out HPb.out.kind))
          have HA5 := Lib.hid ((hg5.block (MB + 1) (Array.getElem?_eq_some_iff.1 HAb.out).1 (by simp)).trans HAb.out)
          have HK5 := Lib.hid ((hg5.block D (Array.getElem?_eq_some_iff.1 HKb.out).1 (by have := HDL.out; simp; omega)).trans HKb.out)
          have HB5 := Lib.hid (HBb.out.grown hg5 HBb.out.size (fun k e => by cases e; exact HMB.out))
          have hn5 := (hg5.block KB (Array.getElem?_eq_some_iff.1 HN.out).1 HNK.out).trans HN.out
          have q0 : w5.cell? ⟨KB, 0, none⟩ = some (.string x.n) := by rw [cell_of_row w5 KB 0 _ _ (0, 0) hn5]; rfl
          have q1 : w5.cell? ⟨KB, 1, none⟩ = some (.string x.v) := by rw [cell_of_row w5 KB 1 _ _ (0, 0) hn5]; rfl
          have hown5 := HO5.out
          have hbase : w.heap.size ≤ w5.heap.size := HB5.out.size
          have h100 : o.length ≤ 100000 := by have := HOL.out; omega
          clear hpl5 hg5 hfx hn5
          go_wp2_with (at_builtin
                       refine appP x rfl _ _ rfl w.heap.size o.length _ _ rfl hown5 rfl h100 hbase ?_)
          intro v6 w6 ho6 hg6 hb6
          have hpo : putL o x = o ++ [x] := by unfold putL; rw [← HF.out, HFX.out]
          have HO6 := Lib.hid (show w6.ownsRow w.heap.size 33 2 v6 (over l (m.take (k + 1))).length (rowPr (over l (m.take (k + 1)))) by rw [HST.out, hpo, rowPr_app, List.length_append]; exact ho6)
          have HP6 := Lib.hid (HP5.out.kept hg6 (own_ne_kind (own_kind10 HO5.out HP5.out.kind)))
          have HA6 := Lib.hid ((hg6.block (MB + 1) (Array.getElem?_eq_some_iff.1 HA5.out).1 (own_ne_kind (own_ty10 HO5.out HA5.out (by decide)))).trans HA5.out)
          have HK6 := Lib.hid ((hg6.block D (Array.getElem?_eq_some_iff.1 HK5.out).1 (own_ne_kind (own_kind10 HO5.out ⟨_, HK5.out, rfl⟩))).trans HK5.out)
          have HF6 := Lib.hid (show ∀ t, putF f x.n o.length t = (over l (m.take (k + 1))).findIdx? (fun p => eqS p.n t) from fun t => by rw [HST.out, hpo]; exact app_names HF.out HFX.out t)
          have HB6 := Lib.hid (HB5.out.trans hb6)
          have HNN := HHN.out
          clear ho6 hg6 hb6 hown5 hbase r0 r1 q0 q1 a0 hlook hrun hpo h100
          go_wp2
          go_roundw
          case rel => exact ⟨k + 1, n + 1, _, by omega, by go_num, HO6.out, by omega, HP6.out, HF6.out, HA6.out, HK6.out, HB6.out⟩
          case measure => simp [intOf]; omega
        | some i =>
          rw [hfx] at hlook
          dsimp only [Option.getD, Option.isSome] at hlook
          have hfi := HF.out x.n
          rw [hfx] at hfi
          have hi : i < o.length := by
            have h1 := hfi.symm
            rw [List.findIdx?_eq_some_iff_getElem] at h1
            exact h1.1
          obtain ⟨y, hy⟩ : ∃ y, o[i]? = some y := ⟨_, List.getElem?_eq_getElem hi⟩
          have hpo : putL o x = o.set i ⟨y.n, x.v⟩ := by
            unfold putL
            rw [← hfi]
            show o.set i ⟨(o.getD i x).n, x.v⟩ = _
            rw [List.getD_eq_getElem?_getD, hy]; rfl
          obtain ⟨g, cap, hve⟩ : ∃ g cap, _ = Value.slice (some ⟨g, 0, none⟩) o.length cap := by
            rcases HOb.out.2 with ⟨_, h0⟩ | ⟨g, cap, cur, hv, _⟩
            · omega
            · exact ⟨g, cap, hv⟩
          subst hve
          have HO6 := Lib.hid (own_put (u := .string x.v) HOb.out (j := i * 2 + 1) (by omega))
          have hge : w.heap.size ≤ g := (HOb.out.lt g rfl).1
          obtain ⟨cur, hcur⟩ : ∃ cur, wb.heap[g]? = some (Obj.cells cur 33 (0, 0)) := by
            rcases HOb.out.2 with ⟨h0, _⟩ | ⟨g', cap', cur, h1, _, h3, _⟩
            · cases h0
            · cases h1; exact ⟨cur, h3⟩
          have f1 := frozen_of_row wb g (i * 2 + 1) _ _ hcur
          have c1 : wb.cell? ⟨g, i * 2 + 1, none⟩ = some (.string y.v) := by
            have h1 := HOb.out.cells (g := g) rfl _ _ ((rowPr_at o i 1 y hy (by omega)).trans rfl)
            unfold Addr.add at h1
            simpa using h1
          have hiI : (i : Int) < (o.length : Int) := by omega
          have hg6 : wb.grownBy (wb.setCell ⟨g, i * 2 + 1, none⟩ (.string x.v)) (some g) := ⟨rfl, rfl, rfl, by simp, fun k _ hk => heap_setCell_other wb ⟨g, i * 2 + 1, none⟩ k _ (fun e => hk (by simp [e]))⟩
          have HO7 := Lib.hid (show (wb.setCell ⟨g, i * 2 + 1, none⟩ (.string x.v)).ownsRow w.heap.size 33 2 _ (over l (m.take (k + 1))).length (rowPr (over l (m.take (k + 1)))) by rw [HST.out, hpo, rowPr_set o i y x.v hy, List.length_set]; exact HO6.out)
          have HP6 := Lib.hid (HPb.out.kept hg6 (own_ne_kind (own_kind10 HOb.out HPb.out.kind)))
          have HA6 := Lib.hid ((hg6.block (MB + 1) (Array.getElem?_eq_some_iff.1 HAb.out).1 (own_ne_kind (own_ty10 HOb.out HAb.out (by decide)))).trans HAb.out)
          have HK6 := Lib.hid ((hg6.block D (Array.getElem?_eq_some_iff.1 HKb.out).1 (own_ne_kind (own_kind10 HOb.out ⟨_, HKb.out, rfl⟩))).trans HKb.out)
          have HF6 := Lib.hid (show ∀ t, f t = (over l (m.take (k + 1))).findIdx? (fun p => eqS p.n t) from fun t => by rw [HST.out, hpo, set_names o i y x.v t hy]; exact HF.out t)
          have HB6 := Lib.hid (HBb.out.setCell (p := ⟨g, i * 2 + 1, none⟩) hge (.string x.v))
          have HNN := HHN.out
          clear hfx hfi hi hy hpo hge hcur hg6
          go_wp2
          go_roundw
          case rel => exact ⟨k + 1, n, f, by omega, by go_num, HO7.out, by omega, HP6.out, HF6.out, HA6.out, HK6.out, HB6.out⟩
          case measure => simp [intOf]; omega
      · have hle : (m.length : Int) ≤ k := by omega
        have HOE := Lib.hid (show over l (m.take k) = over l m by rw [List.take_of_length_le (by omega)])
        obtain ⟨va, vc, hve⟩ := RdSl.shape (RdPs.of_own HOW.out)
        subst hve
        clear hown hf hpl hA hK hbw hlt hk
        go_wp2
        refine ⟨by simp, .inl ⟨_, _, rfl, run_takeDeferred HK.out, ?_⟩⟩
        refine ⟨_, results_tmp rfl _ _ _, _, rfl, ?_, ?_⟩
        · rw [← HOE.out]
          exact ownsRow_putObj HOW.out _ HK.out rfl
        · exact HBW.out.trans (belowK_b (w := w) (Nat.le_refl _) wr D _ _ (by have := HMB.out; have := HDL.out; omega) HK.out rfl rfl)
  case stop =>
    rintro D c pre W _ _ h _
    exact h.elim
end Go.Proofs.Ythfholnnkdoagaa
