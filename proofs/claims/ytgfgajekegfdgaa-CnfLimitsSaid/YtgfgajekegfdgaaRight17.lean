/-
  Layer 17: the contract of cnf.Right. Own work.
-/
import Derived.Test.YtgfgajekegfdgaaCont17
import Derived.Test.YtgfgajekegfdgaaMap17
import Derived.Deep.OwnRows
import Derived.Laws.EntriesVeiled
namespace Go.Proofs.Ytgfgajekegfdgaa
set_option linter.unusedVariables false
set_option linter.unusedSimpArgs false
open Go.RowKit

def hasB (l : List Int) (n : Int) : Bool := l.any fun x => x == n
def sameN (d : Dl) (a b : Int) : Bool := sameAt d.its a.toNat b.toNat
def pairsOk (d : Dl) (l : List Int) : Bool := l.all fun a => l.all fun b => decide (a = b) || !(sameN d a b)
def fulf (d : Dl) (tk : List Int) : Bool := tk.all fun n => (d.ws.getD n.toNat []).all fun x => x.any fun k => hasB tk k
/-- is what is taken right? -/
def rightB (d : Dl) (tk : List Int) : Bool := decide (mayD d = 0) && (hasB tk d.root && (tk.all (inB d.its.length) && (pairsOk d tk && fulf d tk)))
theorem all_congr {α : Type} {l : List α} {f g : α → Bool} (h : ∀ x ∈ l, f x = g x) : l.all f = l.all g := by
  rw [Bool.eq_iff_iff, List.all_eq_true, List.all_eq_true]
  exact ⟨fun k x hx => (h x hx) ▸ k x hx, fun k x hx => (h x hx).symm ▸ k x hx⟩
theorem any_congr {α : Type} {l : List α} {f g : α → Bool} (h : ∀ x ∈ l, f x = g x) : l.any f = l.any g := by
  rw [Bool.eq_iff_iff, List.any_eq_true, List.any_eq_true]
  exact ⟨fun ⟨x, hx, k⟩ => ⟨x, hx, (h x hx) ▸ k⟩, fun ⟨x, hx, k⟩ => ⟨x, hx, (h x hx).symm ▸ k⟩⟩
theorem not_any {α : Type} (l : List α) (f : α → Bool) : (!(l.any f)) = l.all fun x => !(f x) := by
  induction l with
  | nil => rfl
  | cons x l ih => rw [List.any_cons, List.all_cons, ← ih, Bool.not_or]
/-- the marks of some numbers -/
def tab (N : Nat) (l : List Int) : List Bool := (List.range N).map fun i => hasB l (i : Nat)
theorem tab_len (N : Nat) (l : List Int) : (tab N l).length = N := by unfold tab; simp
theorem tab_at {N : Nat} {l : List Int} {i : Nat} (h : i < N) : (tab N l)[i]? = some (hasB l (i : Nat)) := by unfold tab; rw [List.getElem?_map, List.getElem?_range h]; rfl
theorem tab_nil (N : Nat) : tab N [] = List.replicate N false := by
  unfold tab
  apply List.ext_getElem?
  intro i
  rw [List.getElem?_map, List.getElem?_replicate]
  by_cases h : i < N
  · rw [List.getElem?_range h, if_pos h]; rfl
  · rw [List.getElem?_eq_none (by simpa using h), if_neg h]; rfl
theorem hasB_snoc (l : List Int) (n k : Int) : hasB (l ++ [n]) k = (hasB l k || n == k) := by unfold hasB; simp [List.any_append]
theorem tab_set {N n : Nat} {l : List Int} (h : n < N) : (tab N l).set n true = tab N (l ++ [(n : Int)]) := by
  apply List.ext_getElem?
  intro i
  rw [List.getElem?_set]
  by_cases hi : i < N
  · rw [tab_at hi, tab_at hi, hasB_snoc]
    by_cases e : n = i
    · subst e
      rw [if_pos rfl, if_pos (by rw [tab_len]; exact h)]; simp
    · rw [if_neg e]
      have : ((n : Int) == (i : Int)) = false := by rw [beq_eq_false_iff_ne]; omega
      rw [this, Bool.or_false]
  · rw [List.getElem?_eq_none (by rw [tab_len]; omega), List.getElem?_eq_none (by rw [tab_len]; omega), if_neg (by omega)]
theorem isT_tab {N : Nat} {l : List Int} {n : Int} (h0 : 0 ≤ n) (h1 : n < N) : isT (tab N l) n = hasB l n := by
  obtain ⟨k, rfl⟩ : ∃ k : Nat, n = k := ⟨n.toNat, by omega⟩
  unfold isT
  simp [tab_at (show k < N by omega)]
theorem fulf_is {d : Dl} (hm : mayD d = 0) {tk : List Int} : fulf d tk = !(tk.any fun n => (d.ws.getD n.toNat []).any fun x => !(x.any (isT (tab d.its.length tk)))) := by
  obtain ⟨-, -, -, hall⟩ := mayD_zero hm
  rw [not_any]
  unfold fulf
  refine all_congr fun n _ => ?_
  rw [not_any]
  refine all_congr fun x hx => ?_
  rw [Bool.not_not]
  refine any_congr fun k hk => ?_
  rw [List.getD_eq_getElem?_getD] at hx
  cases hw : d.ws[n.toNat]? with
  | none => rw [hw] at hx; simp at hx
  | some ws =>
    rw [hw] at hx
    have a1 := List.all_eq_true.1 hall ws (List.mem_of_getElem? hw)
    have a2 := List.all_eq_true.1 a1 x hx
    have a3 := inB_iff.1 (List.all_eq_true.1 a2 k hk)
    exact (isT_tab a3.1 a3.2).symm
/-! the numbers that the keys have -/
def keyIs (d : Dl) (q : Ky) (n : Int) : Bool := ((d.its[n.toNat]?).map fun y => sameK y.k q).getD false
def numF (d : Dl) (l : List Int) : Ky → Option Int := fun q => l.find? (keyIs d q)
theorem numF_nil (d : Dl) : numF d [] = fun _ => none := rfl
theorem keyIs_at {d : Dl} {n : Int} {x : It} (h : d.its[n.toNat]? = some x) (q : Ky) : keyIs d q n = sameK x.k q := by unfold keyIs; rw [h]; rfl
theorem numF_step {d : Dl} {l : List Int} {n : Int} {x : It} (h : d.its[n.toNat]? = some x) (hone : ∀ a, numF d l x.k = some a → a = n) : putN (numF d l) x.k n = numF d (l ++ [n]) := by
  funext q
  unfold putN
  have hs : numF d (l ++ [n]) q = (numF d l q).or (if sameK x.k q = true then some n else none) := by
    unfold numF
    rw [List.find?_append, List.find?_cons, keyIs_at h]
    cases sameK x.k q <;> simp
  rw [hs]
  by_cases e : sameK q x.k = true
  · have hq := sameK_eq.1 e
    subst hq
    rw [if_pos (sameK_self _), if_pos (sameK_self _)]
    cases hf : numF d l x.k with
    | none => rfl
    | some a => rw [hone a hf]; rfl
  · have e2 : ¬ sameK x.k q = true := by rw [sameK_comm]; exact e
    rw [if_neg e, if_neg e2]
    cases numF d l q <;> rfl
theorem keyIs_same {d : Dl} {a n : Int} {x : It} (h : d.its[n.toNat]? = some x) : keyIs d x.k a = sameN d a n := by
  unfold keyIs sameN sameAt
  rw [h]
  cases ha : d.its[a.toNat]? with
  | none => rfl
  | some y => simp [sameK_comm]
theorem sameN_comm (d : Dl) (a b : Int) : sameN d a b = sameN d b a := by
  unfold sameN sameAt
  cases d.its[a.toNat]? <;> cases d.its[b.toNat]? <;> simp [sameK_comm]
theorem pairs_at {d : Dl} {l : List Int} (h : pairsOk d l = true) {a b : Int} (ha : a ∈ l) (hb : b ∈ l) (hs : sameN d a b = true) : a = b := by
  have h1 := List.all_eq_true.1 (List.all_eq_true.1 h a ha) b hb
  rw [hs] at h1
  simpa using h1
theorem pairs_mk {d : Dl} {l : List Int} (h : ∀ a ∈ l, ∀ b ∈ l, sameN d a b = true → a = b) : pairsOk d l = true := by
  unfold pairsOk
  rw [List.all_eq_true]
  intro a ha
  rw [List.all_eq_true]
  intro b hb
  cases hs : sameN d a b
  · simp
  · simp [h a ha b hb hs]
theorem pairs_step {d : Dl} {l : List Int} {n : Int} {x : It} (hx : d.its[n.toNat]? = some x) (h : pairsOk d l = true) (hone : ∀ a, numF d l x.k = some a → a = n) : pairsOk d (l ++ [n]) = true := by
  have hc : ∀ a ∈ l, sameN d a n = true → a = n := fun a ha hs => by
    rw [← keyIs_same hx] at hs
    cases hf : numF d l x.k with
    | none =>
      unfold numF at hf
      have := List.find?_eq_none.1 hf a ha
      rw [hs] at this; simp at this
    | some b =>
      have hbn := hone b hf
      subst hbn
      unfold numF at hf
      have hbm := List.mem_of_find?_eq_some hf
      exact pairs_at h ha hbm (by rw [← keyIs_same hx]; exact hs)
  refine pairs_mk fun a ha b hb hs => ?_
  rcases List.mem_append.1 ha with h1 | h1
  · rcases List.mem_append.1 hb with h2 | h2
    · exact pairs_at h h1 h2 hs
    · have h3 : b = n := by simpa using h2
      rw [h3] at hs ⊢
      exact hc a h1 hs
  · have h4 : a = n := by simpa using h1
    rcases List.mem_append.1 hb with h2 | h2
    · rw [h4] at hs ⊢
      exact (hc b h2 (by rw [sameN_comm]; exact hs)).symm
    · have h3 : b = n := by simpa using h2
      rw [h4, h3]
theorem pairs_not {d : Dl} {tk : List Int} {m : Nat} {n a : Int} {x : It} (hn : tk[m]? = some n) (hx : d.its[n.toNat]? = some x) (hf : numF d (tk.take m) x.k = some a) (hne : a ≠ n) : pairsOk d tk = false := by
  rw [Bool.eq_false_iff]
  intro h
  unfold numF at hf
  have h1 := List.mem_of_find?_eq_some hf
  have h2 := List.find?_some hf
  rw [keyIs_same hx] at h2
  exact hne (pairs_at h (List.mem_of_mem_take h1) (List.mem_of_getElem? hn) h2)
theorem Nums.look2 {w : World} {b n : Nat} {f : Ky → Option Int} {k : Ky} (h : Nums w b n f) (hk : okKy k) : (Instr.lookup 59 (.map (some b)) (.agg #[.string k.g, .string k.a, .string k.t, .string k.c]) true).run Try.prog w = .ok (.tuple #[.int .i64 ((f k).getD 0), .bool (f k).isSome]) w := by
  obtain ⟨D, h1, h2⟩ := h
  obtain ⟨v, ps, hr, hv⟩ := h1.look_ok kKeyed Try.underlying59 (zero_int _) (plainElem_int (H := Unit) Try.underlying3 (wf_of (m := 0) (by omega) (by omega))) (key_is hk)
  obtain ⟨c, rfl, hc, hw⟩ := plainElem_int_inv Try.underlying3 hv
  have hc1 := congrArg Prod.fst hc
  simp only [(h2 k hk).2, DataW.lit.injEq, Lit.int.injEq, true_and] at hc1
  rw [hr, (h2 k hk).1, hc1]
theorem Nums.setCell {w : World} {b n : Nat} {f : Ky → Option Int} (h : Nums w b n f) {a : Addr} (ha : b ≠ a.block) (u : Value) : Nums (w.setCell a u) b n f := by
  obtain ⟨D, h1, h2⟩ := h
  exact ⟨D, h1.setCell ha u, h2⟩
/-- what Right keeps in memory -/
structure RgS (w1 : World) (N IB V MP : Nat) (M : List Bool) (cnt : Nat) (f : Ky → Option Int) (w : World) : Prop where
  b : Below w1.heap.size w1 w
  v : w.heap[V]? = some (.cells #[.slice (some ⟨IB, 0, none⟩) N N] 40 (0, 0))
  r : w.heap[IB]? = some (.cells (M.map bV).toArray 4 (0, 0))
  n : Nums w MP cnt f
  g1 : w1.heap.size ≤ IB
  g2 : w1.heap.size ≤ V
  g3 : w1.heap.size ≤ MP
  d1 : IB ≠ V
  d2 : IB ≠ MP
  d3 : V ≠ MP
section
variable {w1 w w' : World} {N IB V MP cnt cnt' : Nat} {M : List Bool} {f f' : Ky → Option Int}
theorem RgS.below (h : RgS w1 N IB V MP M cnt f w) (hb : Below w.heap.size w w') : RgS w1 N IB V MP M cnt f w' :=
  ⟨h.b.trans (hb.mono h.b.size), (hb.block V (Array.getElem?_eq_some_iff.1 h.v).1).trans h.v, (hb.block IB (Array.getElem?_eq_some_iff.1 h.r).1).trans h.r, h.n.kept (row := none) ⟨hb.os, hb.tape, hb.output, hb.size, fun k hk _ => hb.block k hk⟩ (by simp), h.g1, h.g2, h.g3, h.d1, h.d2, h.d3⟩
theorem RgS.map (h : RgS w1 N IB V MP M cnt f w) (hn : Nums w' MP cnt' f') (hg : w.grownBy w' (some MP)) : RgS w1 N IB V MP M cnt' f' w' :=
  ⟨h.b.grown hg h.b.size (fun k hk => by cases hk; exact h.g3), (hg.block V (Array.getElem?_eq_some_iff.1 h.v).1 (fun e => h.d3 (Option.some.inj e))).trans h.v, (hg.block IB (Array.getElem?_eq_some_iff.1 h.r).1 (fun e => h.d2 (Option.some.inj e))).trans h.r, hn, h.g1, h.g2, h.g3, h.d1, h.d2, h.d3⟩
theorem RgS.mark (h : RgS w1 N IB V MP M cnt f w) (n : Nat) : RgS w1 N IB V MP (M.set n true) cnt f (w.setCell ⟨IB, n, none⟩ (.bool true)) := by
  refine ⟨h.b.setCell h.g1 _, (heap_setCell_other w ⟨IB, n, none⟩ V _ h.d1.symm).trans h.v, ?_, h.n.setCell (fun e => h.d2 e.symm) _, h.g1, h.g2, h.g3, h.d1, h.d2, h.d3⟩
  have := heap_setCell_same w IB n _ _ (.bool true) h.r
  rw [this]
  congr 2
  apply Array.ext'
  simp [List.map_set, bV]
theorem RgS.cv (h : RgS w1 N IB V MP M cnt f w) : w.cell? ⟨V, 0, none⟩ = some (.slice (some ⟨IB, 0, none⟩) N N) := by rw [cell_of_row w V 0 _ _ (0, 0) h.v]; rfl
theorem RgS.ci (h : RgS w1 N IB V MP M cnt f w) {i : Nat} {b : Bool} (hi : M[i]? = some b) : w.cell? ⟨IB, i, none⟩ = some (.bool b) ∧ w.frozen? ⟨IB, i, none⟩ = false :=
  ⟨by rw [cell_of_row w IB i _ _ (0, 0) h.r]; simp [hi, bV], frozen_of_row w IB i _ _ h.r⟩
end
theorem made_bools17 (N : Nat) : madeCells #[.bool false] N = ((List.replicate N false).map bV).toArray := by
  apply Array.ext
  · simp [madeCells]
  · intro i h1 h2
    simp [madeCells, bV, Nat.mod_one]
theorem bool_info17 : (Try.prog.info? 4).map (fun i => (i.zero, i.size, i.bytes)) = some (some (.bool false), 1, 1) := by kernel_rfl
set_option maxRecDepth 100000 in
set_option maxHeartbeats 8000000 in
theorem Right_any (d : Dl) (tk : List Int) (vi vw vt : Value) (hok : ∀ x ∈ d.its, okIt x) (hwf : ∀ n ∈ tk, -9223372036854775808 ≤ n ∧ n ≤ 9223372036854775807) (htl : tk.length ≤ 1000000) (w : World) (hr : RdD w vi vw d) (ht : Reads w iV vt tk) :
    Calls Try.prog 17 #[dealV vi vw d.root, vt] w (BoolP (rightB d tk) w) := by
  obtain ⟨ai, ci, aw, cw, rfl, rfl⟩ := hr.shape
  obtain ⟨ta, tc, rfl⟩ := ht.shape
  have hb0 : Below w.heap.size w (w.alloc (.cells #[.slice ai d.its.length ci, .slice aw d.ws.length cw, .int .i64 d.root] 25)) := (Below.refl w.heap.size w).alloc (Nat.le_refl _) _
  have hk := DlIn.new w (.slice ai d.its.length ci) (.slice aw d.ws.length cw) d.root
  have HR := Lib.hid (hr.below hb0 (Nat.le_refl _))
  have HT := Lib.hid (ht.below hb0 (Nat.le_refl _))
  have HB0 := Lib.hid hb0
  have HOK := Lib.hid hok
  have HWF := Lib.hid hwf
  have hmay := fun w' hr => May_any d (.slice ai d.its.length ci) (.slice aw d.ws.length cw) w' hr
  have HRB := Lib.hid (show rightB d tk = (decide (mayD d = 0) && (hasB tk d.root && (tk.all (inB d.its.length) && (pairsOk d tk && fulf d tk)))) from rfl)
  generalize rightB d tk = RB at HRB ⊢
  have hcon := fun w' hr => Contains_any d.root (.slice ta tk.length tc) tk w' hr
  unfold dealV at hmay ⊢
  have HMAY := Lib.hid hmay
  have HCON := Lib.hid hcon
  have hmm := @run_makeMap Try.prog
  have htlI : (tk.length : Int) ≤ 1000000 := by omega
  clear hr ht hb0 hmay hok hwf hcon
  go_enter Try.func17, Try.ntmps17
  go_upto_region 1 with fail
  generalize w.alloc (.cells #[.slice ai d.its.length ci, .slice aw d.ws.length cw, .int .i64 d.root] 25) = w1 at hk HR HT HB0 ⊢
  generalize w.heap.size = D at hk ⊢
  have HK := Lib.hid hk
  obtain ⟨x0, x1, x2⟩ := hk
  go_wp2_with fail
  refine (HMAY.out _ HR.out).mono ?_
  rintro e w2 ⟨rfl, hb2⟩
  have HB2 := Lib.hid hb2
  clear x0 x1 x2 hb2
  by_cases hm : mayD d = 0
  case neg =>
    have HF := Lib.hid (show RB = false from by rw [HRB.out, decide_eq_false hm]; rfl)
    have hne : (mayD d != 0) = true := by simpa using hm
    clear hm
    go_wp2
    go_ret
    exact ⟨ret_bool HF.out.symm, HB0.out.trans (HB2.out.mono HB0.out.size)⟩
  have HM := Lib.hid hm
  have HRB2 := Lib.hid (show RB = (hasB tk d.root && (tk.all (inB d.its.length) && (pairsOk d tk && fulf d tk))) from by rw [HRB.out, decide_eq_true hm, Bool.true_and])
  rw [hm]
  clear hm
  obtain ⟨h1024, ⟨hr0, hr1⟩, hwl, -⟩ := mayD_zero HM.out
  have hNI : (d.its.length : Int) ≤ 1024 := by omega
  obtain ⟨x0, x1, x2⟩ := HK.out.below HB2.out (Nat.le_refl _)
  go_wp2_with fail
  refine (HCON.out _ (HT.out.below HB2.out (Nat.le_refl _))).mono ?_
  rintro e w3 ⟨rfl, hb3⟩
  have HB3 := Lib.hid (HB2.out.trans (hb3.mono HB2.out.size))
  clear x0 x1 x2 hb3
  have HHB := Lib.hid (show hasB tk d.root = tk.any (fun x => x == d.root) from rfl)
  generalize (tk.any fun x => x == d.root) = hb at HHB ⊢
  cases hb
  · have HF := Lib.hid (show RB = false from by rw [HRB2.out, HHB.out]; rfl)
    go_wp2
    go_ret
    exact ⟨ret_bool HF.out.symm, HB0.out.trans (HB3.out.mono HB0.out.size)⟩
  have HRB3 := Lib.hid (show RB = (tk.all (inB d.its.length) && (pairsOk d tk && fulf d tk)) from by rw [HRB2.out, HHB.out, Bool.true_and])
  have hmk := fun w => run_make_row' (P := Try.prog) 40 4 (.bool false) 1 Try.underlying40 bool_info17 rfl .i64 .i64 d.its.length (by omega) (by omega) w
  obtain ⟨x0, x1, x2⟩ := HK.out.below HB3.out (Nat.le_refl _)
  have hb5 : Below w3.heap.size w3 (((w3.alloc (.cells (madeCells #[.bool false] d.its.length) 4)).alloc (.cells #[.slice (some ⟨w3.heap.size, 0, none⟩) d.its.length d.its.length] 40)).alloc (.map #[] 0)) := (((Below.refl w3.heap.size w3).alloc (Nat.le_refl _) _).alloc (by simp) _).alloc (by simp; omega) _
  have hM0 : (((w3.alloc (.cells (madeCells #[.bool false] d.its.length) 4)).alloc (.cells #[.slice (some ⟨w3.heap.size, 0, none⟩) d.its.length d.its.length] 40)).alloc (.map #[] 0)).heap[w3.heap.size]? = some (.cells ((tab d.its.length []).map bV).toArray 4 (0, 0)) := by
    rw [tab_nil, ← made_bools17]
    exact (Below.heap_alloc _ _ _ (by simp; omega)).trans ((Below.heap_alloc _ _ _ (by simp)).trans (heap_alloc_new w3 _))
  have hMV : (((w3.alloc (.cells (madeCells #[.bool false] d.its.length) 4)).alloc (.cells #[.slice (some ⟨w3.heap.size, 0, none⟩) d.its.length d.its.length] 40)).alloc (.map #[] 0)).heap[w3.heap.size + 1]? = some (.cells #[.slice (some ⟨w3.heap.size, 0, none⟩) d.its.length d.its.length] 40 (0, 0)) := by
    have h := heap_alloc_new (w3.alloc (.cells (madeCells #[.bool false] d.its.length) 4)) (.cells #[.slice (some ⟨w3.heap.size, 0, none⟩) d.its.length d.its.length] 40)
    refine (Below.heap_alloc _ _ _ (by simp)).trans ?_
    simpa using h
  have hNM := Nums.made ((w3.alloc (.cells (madeCells #[.bool false] d.its.length) 4)).alloc (.cells #[.slice (some ⟨w3.heap.size, 0, none⟩) d.its.length d.its.length] 40))
  simp only [World.size_alloc] at hNM
  go_upto_region 5 with fail
  generalize ((w3.alloc (.cells (madeCells #[.bool false] d.its.length) 4)).alloc (.cells #[.slice (some ⟨w3.heap.size, 0, none⟩) d.its.length d.its.length] 40)).alloc (.map #[] 0) = w5 at hb5 hM0 hMV hNM ⊢
  obtain ⟨IB, hIB⟩ : ∃ b, b = w3.heap.size := ⟨_, rfl⟩
  rw [← hIB] at hM0 hMV hNM ⊢
  obtain ⟨MP, hMP⟩ : ∃ b, b = IB + 1 + 1 := ⟨_, rfl⟩
  rw [← hMP] at hNM ⊢
  obtain ⟨V, hV⟩ : ∃ b, b = IB + 1 := ⟨_, rfl⟩
  rw [← hV] at hMV ⊢
  have hs0 : RgS w1 d.its.length IB V MP (tab d.its.length []) 0 (numF d []) w5 := ⟨HB3.out.trans (hb5.mono HB3.out.size), hMV, hM0, hNM, by have := HB3.out.size; omega, by have := HB3.out.size; omega, by have := HB3.out.size; omega, by omega, by omega, by omega⟩
  have HS0 := Lib.hid hs0
  clear hb5 hM0 hMV hNM hIB hMP hV hs0 hmk hmm x0 x1 x2
  go_wp2_with fail
  go_loopw [30] (fun i wr => ∃ m : Nat, m ≤ tk.length ∧ i = .int .i64 m ∧ RgS w1 d.its.length IB V MP (tab d.its.length (tk.take m)) m (numF d (tk.take m)) wr ∧ (tk.take m).all (inB d.its.length) = true ∧ pairsOk d (tk.take m) = true) (fun i _ => tk.length - (intOf i).toNat)
  case atStart => exact ⟨0, by omega, rfl, by simpa using HS0.out, rfl, rfl⟩
  case round =>
    obtain ⟨m, hml, rfl, hs, hall, hpo⟩ := hrel
    have HS := Lib.hid hs
    have HALL := Lib.hid hall
    have HPO := Lib.hid hpo
    by_cases hlt : m < tk.length
    · obtain ⟨n, hn⟩ : ∃ n, tk[m]? = some n := ⟨_, List.getElem?_eq_getElem hlt⟩
      obtain ⟨tb, rfl, hc⟩ := Reads.elem HT.out hn
      unfold iV at hc
      have hcn := (hs.b.cell (World.block_lt_of_cell? w1 _ hc)).trans hc
      obtain ⟨hn8, hn9⟩ := HWF.out n (List.mem_of_getElem? hn)
      have HN := Lib.hid hn
      have HTK := Lib.hid (show tk.take (m + 1) = tk.take m ++ [n] from by rw [List.take_add_one, hn]; rfl)
      have HSA := Lib.hid (all_snoc hn (inB d.its.length))
      obtain ⟨x0, x1, x2⟩ := HK.out.below hs.b (Nat.le_refl _)
      clear hs hall hpo hc hn
      by_cases hn0 : n < 0
      · have HF := Lib.hid (show RB = false from by rw [HRB3.out, all_not HN.out (inB_low hn0)]; rfl)
        go_wp2
        go_ret
        exact ⟨ret_bool HF.out.symm, HB0.out.trans (HS.out.b.mono HB0.out.size)⟩
      have hn0' : 0 ≤ n := by omega
      have hdn0 : decide (n < 0) = false := by simpa using hn0'
      by_cases hn1 : (d.its.length : Int) ≤ n
      · have HF := Lib.hid (show RB = false from by rw [HRB3.out, all_not HN.out (inB_high hn1)]; rfl)
        clear hn0
        go_wp2
        go_ret
        exact ⟨ret_bool HF.out.symm, HB0.out.trans (HS.out.b.mono HB0.out.size)⟩
      have hn1' : n < d.its.length := by omega
      have hdn1 : decide ((d.its.length : Int) ≤ n) = false := by simpa using hn1'
      have HIN := Lib.hid (inB_yes hn0' hn1')
      clear hn0 hn1
      obtain ⟨x, hx⟩ : ∃ x, d.its[n.toNat]? = some x := ⟨_, List.getElem?_eq_getElem (by omega)⟩
      have hrI := HR.out.i.below HS.out.b (Nat.le_refl _)
      obtain ⟨bi, hbi, hit⟩ := RdI.elem hrI hx
      subst hbi
      obtain ⟨i0, i1, i2, i3, i4⟩ := hit
      have HX := Lib.hid hx
      have HKX := Lib.hid (show okKy x.k from by
        obtain ⟨p0, p1, p2, p3, p4⟩ := HOK.out x (List.mem_of_getElem? hx)
        exact ⟨by unfold maxLen; exact p0, by unfold maxLen; exact p1, by unfold maxLen; exact p2, by unfold maxLen; exact p3⟩)
      have hbA : Below wr.heap.size wr (wr.alloc (.cells #[.string x.k.g, .string x.k.a, .string x.k.t, .string x.k.c] 47)) := (Below.refl _ _).alloc (Nat.le_refl _) _
      have HSA2 := Lib.hid (HS.out.below hbA)
      have hrow := heap_alloc_new wr (.cells #[.string x.k.g, .string x.k.a, .string x.k.t, .string x.k.c] 47)
      clear hx hrI hbA i4
      go_upto_region 11 with fail
      generalize wr.alloc (.cells #[.string x.k.g, .string x.k.a, .string x.k.t, .string x.k.c] 47) = wa at HSA2 hrow ⊢
      generalize wr.heap.size = KB at hrow ⊢
      clear i0 i1 i2 i3 x0 x1 x2 hcn
      have k0 : wa.cell? ⟨KB, 0, none⟩ = some (.string x.k.g) := by rw [cell_of_row wa KB 0 _ _ (0, 0) hrow]; rfl
      have k1 : wa.cell? ⟨KB, 1, none⟩ = some (.string x.k.a) := by rw [cell_of_row wa KB 1 _ _ (0, 0) hrow]; rfl
      have k2 : wa.cell? ⟨KB, 2, none⟩ = some (.string x.k.t) := by rw [cell_of_row wa KB 2 _ _ (0, 0) hrow]; rfl
      have k3 : wa.cell? ⟨KB, 3, none⟩ = some (.string x.k.c) := by rw [cell_of_row wa KB 3 _ _ (0, 0) hrow]; rfl
      have hlook := HSA2.out.n.look2 HKX.out
      obtain ⟨wu, hup, hnu, hgu⟩ := HSA2.out.n.update HKX.out (by omega) hn8 hn9
      have HSU := Lib.hid (HSA2.out.map hnu hgu)
      have hcv := HSU.out.cv
      obtain ⟨bo, hbo⟩ : ∃ b, (tab d.its.length (tk.take m))[n.toNat]? = some b := ⟨_, List.getElem?_eq_getElem (by rw [tab_len]; omega)⟩
      obtain ⟨hci, hfi⟩ := HSU.out.ci hbo
      have HUP := Lib.hid hup
      have hone0 := fun (h : ∀ a, numF d (tk.take m) x.k = some a → a = n) => numF_step (l := tk.take m) HX.out h
      have hpst0 := fun (h : ∀ a, numF d (tk.take m) x.k = some a → a = n) => pairs_step HX.out HPO.out h
      have hpn0 := fun a (hf : numF d (tk.take m) x.k = some a) (hne : a ≠ n) => pairs_not HN.out HX.out hf hne
      have HO := Lib.hid hone0
      have HP := Lib.hid hpst0
      have HPN := Lib.hid hpn0
      have hts := tab_set (N := d.its.length) (n := n.toNat) (l := tk.take m) (by omega)
      rw [show ((n.toNat : Nat) : Int) = n by omega, ← HTK.out] at hts
      have HTS := Lib.hid hts
      clear hup hnu hgu hrow hbo hone0 hpst0 hpn0 hts
      cases hf : numF d (tk.take m) x.k with
      | none =>
        rw [hf] at hlook
        have HONE := Lib.hid (show ∀ a, numF d (tk.take m) x.k = some a → a = n from fun a h => by rw [hf] at h; cases h)
        clear hf
        have hup := HUP.out
        go_upto_region 16 with fail
        have HFIN := Lib.hid (HSU.out.mark n.toNat)
        clear hup hlook hcv hci hfi k0 k1 k2 k3
        generalize wu.setCell ⟨IB, n.toNat, none⟩ (.bool true) = wf at HFIN ⊢
        go_wp2
        go_roundw
        case rel => exact ⟨m + 1, by omega, by go_num, by rw [← HTS.out, HTK.out, ← HO.out HONE.out]; exact HFIN.out, by rw [HSA.out, HALL.out, HIN.out]; rfl, by rw [HTK.out]; exact HP.out HONE.out⟩
        case measure => simp [intOf]; omega
      | some a =>
        rw [hf] at hlook
        by_cases hane : a = n
        · subst hane
          have HONE := Lib.hid (show ∀ b, numF d (tk.take m) x.k = some b → b = a from fun b h => by rw [hf] at h; cases h; rfl)
          have hbne : (a != a) = false := by simp
          clear hf
          have hup := HUP.out
          go_upto_region 16 with fail
          have HFIN := Lib.hid (HSU.out.mark a.toNat)
          clear hup hlook hcv hci hfi k0 k1 k2 k3
          generalize wu.setCell ⟨IB, a.toNat, none⟩ (.bool true) = wf at HFIN ⊢
          go_wp2
          go_roundw
          case rel => exact ⟨m + 1, by omega, by go_num, by rw [← HTS.out, HTK.out, ← HO.out HONE.out]; exact HFIN.out, by rw [HSA.out, HALL.out, HIN.out]; rfl, by rw [HTK.out]; exact HP.out HONE.out⟩
          case measure => simp [intOf]; omega
        · have HF := Lib.hid (show RB = false from by rw [HRB3.out, HPN.out a hf hane]; simp)
          have hbne : (a != n) = true := by simpa using hane
          clear hf hane
          go_wp2
          go_ret
          exact ⟨ret_bool HF.out.symm, HB0.out.trans (HSA2.out.b.mono HB0.out.size)⟩
    · have hle : (tk.length : Int) ≤ m := by omega
      rw [List.take_of_length_le (show tk.length ≤ m by omega)] at hs hall hpo
      have HRB4 := Lib.hid (show RB = fulf d tk from by rw [HRB3.out, hall, hpo]; rfl)
      have hcv := hs.cv
      have HS9 := Lib.hid hs
      have HFU := Lib.hid (fulf_is (tk := tk) HM.out)
      have HALL9 := Lib.hid hall
      clear hall hpo
      have hbl : Below wr.heap.size wr (wr.alloc (.cells #[(.func (.func 29) #[] #[.pointer (some ⟨V, 0, none⟩)])] 62)) := (Below.refl _ _).alloc (Nat.le_refl _) _
      have hrowl := heap_alloc_new wr (.cells #[(.func (.func 29) #[] #[.pointer (some ⟨V, 0, none⟩)])] 62)
      go_upto_region 18 with fail
      have HSL := Lib.hid (hs.below hbl)
      generalize wr.alloc (.cells #[(.func (.func 29) #[] #[.pointer (some ⟨V, 0, none⟩)])] 62) = wl at hrowl HSL ⊢
      generalize wr.heap.size = LV at hrowl ⊢
      have hlv : wl.cell? ⟨LV, 0, none⟩ = some (.func (.func 29) #[] #[.pointer (some ⟨V, 0, none⟩)]) := by rw [cell_of_row wl LV 0 _ _ (0, 0) hrowl]; rfl
      have hmarks : Marks wl V IB (tab d.its.length tk) := ⟨by rw [tab_len]; exact HSL.out.cv, HSL.out.r⟩
      have hcall := ContLack D LV (.slice ta tk.length tc) tk (fun n => (d.ws.getD n.toNat []).any fun x => !(x.any (isT (tab d.its.length tk)))) wl (HT.out.below HSL.out.b (Nat.le_refl _)) (fun n hn w' hb => by
        have hin := inB_iff.1 (List.all_eq_true.1 HALL9.out n hn)
        exact lackN_any d V IB D LV (tab d.its.length tk) _ _ HM.out (tab_len _ _) n hin.1 hin.2 w' (hmarks.below hb (Nat.le_refl _)) ((HK.out.below HSL.out.b (Nat.le_refl _)).below hb (Nat.le_refl _)) ((HR.out.below HSL.out.b (Nat.le_refl _)).below hb (Nat.le_refl _)) ((hb.cell (World.block_lt_of_cell? wl _ hlv)).trans hlv))
      generalize (tk.any fun n => (d.ws.getD n.toNat []).any fun x => !(x.any (isT (tab d.its.length tk)))) = ans at hcall HFU
      have HC := Lib.hid hcall
      clear hcall hmarks hlv hrowl hs hbl hcv
      go_wp2_with fail
      refine HC.out.mono ?_
      rintro e wz ⟨rfl, hbz⟩
      have HBZ := Lib.hid (HB0.out.trans ((HSL.out.b.trans (hbz.mono HSL.out.b.size)).mono HB0.out.size))
      clear hbz
      go_wp2
      go_ret
      exact ⟨ret_bool (by rw [HRB4.out, HFU.out]), HBZ.out⟩
end Go.Proofs.Ytgfgajekegfdgaa
