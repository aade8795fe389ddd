/-
  Layer 29: run's mathematics: what the loop keeps, and that each method is a step. Own work.
-/
import Derived.Test.YtlcbfahaapodmaaBm29
import Derived.Test.YtlcbfahaapodmaaCd29
namespace Go.Proofs.Ytlcbfahaapodmaa
set_option linter.unusedVariables false
set_option linter.unusedSimpArgs false

theorem alive_none (L : Cs) : alive L (List.replicate L.length false) = L := by
  induction L with
  | nil => rfl
  | cons c L ih => simp [alive, List.replicate_succ, ih]
/-- ahead of the first two steps -/
structure BN (S : Ws) : Prop where
  pl : S.pl = false
  ns : S.ns = 0
  sz : Sz S
  G : S.G = List.replicate S.L.length false
  st : ∀ a, S.st a = []
  cn : ∀ a, S.cn a = 0
  bg : S.bg = false
  first : S.first = 0
  sg : S.sg = []
  en : S.en = false
  fx : S.fx = []
/-- behind the first two steps -/
structure PB (S : Ws) : Prop where
  pl : S.pl = true
  ns : S.ns ≤ S.fx.length
  gd : Gd S
  stI : StI S
  pln : Pln (alive S.L S.G)
  bg1 : S.bg = true → CI S ∧ firstW S 0 = none ∧ firstW S 1 = none
  bg0 : S.bg = false → S.first = 0 ∧ S.sg = []
  fx : S.fx.length + sizeC (alive S.L S.G) ≤ 1000000
section
variable {S : Ws}
theorem BN.abs (h : BN S) : absW S = { C := S.L, fx := S.fx, sg := S.ns, en := false } := by
  unfold absW
  rw [h.en, h.G, alive_none]
  rfl
theorem BN.twice (h : BN S) : BN { S with L := S.L.map dd } :=
  ⟨h.pl, h.ns, ⟨by show S.G.length = (S.L.map dd).length; rw [List.length_map]; exact h.sz.gl, h.sz.vars, fun c hc n hn => by
      obtain ⟨d, hd, rfl⟩ := List.mem_map.1 hc
      exact h.sz.lits d hd n ((mem_dd d n).1 hn), Nat.le_trans (sizeC_map_le dd dd_len_le S.L) h.sz.size⟩,
    by show S.G = List.replicate (S.L.map dd).length false; rw [List.length_map]; exact h.G, h.st, h.cn, h.bg, h.first, h.sg, h.en, h.fx⟩
theorem dd_all {L : Cs} (h : (L.any fun c => !decide c.Nodup) = false) : L.map dd = L := by
  rw [List.any_eq_false] at h
  have : ∀ c ∈ L, dd c = c := fun c hc => dd_of_nodup c (by simpa using h c hc)
  rw [List.map_congr_left this, List.map_id']
/-- step 1 -/
theorem BN.step1 (h : BN S) : ((S.L.any fun c => !decide c.Nodup) = true → stepM S.vars (absW S) = some (absW { S with L := S.L.map dd })) ∧ ((S.L.any fun c => !decide c.Nodup) = false → ({ S with L := S.L.map dd } : Ws) = S ∧ ∀ c ∈ S.L, c.Nodup) := by
  refine ⟨fun h1 => ?_, fun h1 => ⟨by rw [dd_all h1], fun c hc => ?_⟩⟩
  · rw [h.twice.abs, h.abs]
    unfold stepM
    rw [if_pos h1]
  · have := List.any_eq_false.1 h1 c hc
    simpa using this
theorem BN.b0 (h : BN S) (hn : ∀ c ∈ S.L, c.Nodup) : B0 S := ⟨h.sz, h.G, h.st, h.cn, hn⟩
theorem filter_no {L : Cs} (h : (L.any taut) = false) : (L.filter fun c => !taut c) = L := List.filter_eq_self.2 fun c hc => by
  have := List.any_eq_false.1 h c hc
  simpa using this
theorem both_abs (h : BN S) (hn : ∀ c ∈ S.L, c.Nodup) : absW (bothTo S S.L.length) = { C := S.L.filter fun c => !taut c, fx := S.fx, sg := S.ns, en := false } := by
  have hs := bothTo_same S S.L.length
  have ha := (h.b0 hn).alive
  unfold absW
  rw [ha]
  have e1 : (bothTo S S.L.length).en = S.en := by rw [hs]
  have e2 : (bothTo S S.L.length).fx = S.fx := by rw [hs]
  have e3 : (bothTo S S.L.length).ns = S.ns := by rw [hs]
  rw [e1, e2, e3, h.en]
  rfl
/-- step 2 -/
theorem BN.step2 (h : BN S) (hn : ∀ c ∈ S.L, c.Nodup) : PB (bothTo S S.L.length) ∧ (S.L.any taut = true → stepM S.vars (absW S) = some (absW (bothTo S S.L.length))) ∧ (S.L.any taut = false → absW (bothTo S S.L.length) = absW S) := by
  have hs := bothTo_same S S.L.length
  have hb := h.b0 hn
  refine ⟨⟨by rw [hs], by rw [hs]; show S.ns ≤ _; rw [h.ns]; exact Nat.zero_le _, hb.gd, hb.stI, hb.pln, fun e => ?_, fun _ => ?_, ?_⟩, fun h1 => ?_, fun h1 => ?_⟩
  · have : (bothTo S S.L.length).bg = S.bg := by rw [hs]
    rw [this, h.bg] at e; cases e
  · have e1 : (bothTo S S.L.length).first = S.first := by rw [hs]
    have e2 : (bothTo S S.L.length).sg = S.sg := by rw [hs]
    rw [e1, e2]
    exact ⟨h.first, h.sg⟩
  · have e2 : (bothTo S S.L.length).fx = S.fx := by rw [hs]
    rw [e2, h.fx, hb.alive]
    have h1 := sizeC_filter_le (fun c => !taut c) S.L
    have h2 := h.sz.size
    simp
    omega
  · rw [both_abs h hn, h.abs]
    unfold stepM
    rw [if_neg (by
      intro h2
      obtain ⟨c, hc, h3⟩ := List.any_eq_true.1 h2
      simp [hn c hc] at h3), if_pos h1]
  · rw [both_abs h hn, h.abs, filter_no h1]
/-- clauses that are there, when clauses go -/
theorem firstW_less {S T : Ws} {z : Nat} (hL : T.L = S.L) (hg : ∀ i, T.G.getD i false = false → S.G.getD i false = false) (h : firstW S z = none) : firstW T z = none := by
  unfold firstW at h ⊢
  rw [List.find?_eq_none] at h ⊢
  intro i hi
  rw [hL] at hi ⊢
  have := h i hi
  intro h2
  simp only [Bool.and_eq_true, beq_iff_eq, Bool.not_eq_true'] at h2 this
  exact this ⟨h2.1, hg i h2.2⟩
theorem fixS_gone {S : Ws} {n : Int} {i : Nat} (hg : (fixS S n).G.getD i false = false) : S.G.getD i false = false := by
  have e := dropsS_gone { S with fx := S.fx ++ [n] } (S.st (posN S.vars n)) i
  have e' : (fixS S n).G[i]? = (S.G[i]?).map fun b => b || decide (i ∈ S.st (posN S.vars n)) := e
  rw [List.getD, e'] at hg
  cases hq : S.G[i]? with
  | none => simp [List.getD, hq]
  | some b =>
    rw [hq] at hg
    cases b with
    | false => simp [List.getD, hq]
    | true => simp at hg
theorem alive_less {L : Cs} {G G' : List Bool} (hG : G'.length = G.length) (hGL : G.length = L.length) (hg : ∀ i, G'.getD i false = false → G.getD i false = false) {c : List Int} (h : c ∈ alive L G') : c ∈ alive L G := by
  obtain ⟨i, h1, h2⟩ := alive_mem.1 h
  refine alive_mem.2 ⟨i, h1, ?_⟩
  have hi := (List.getElem?_eq_some_iff.1 h1).1
  have h3 := hg i (by rw [List.getD, h2]; rfl)
  have hl : i < G.length := by omega
  rw [List.getElem?_eq_getElem hl]
  rw [List.getD, List.getElem?_eq_getElem hl] at h3
  simp only [Option.getD_some] at h3
  rw [h3]
theorem StI.less {S T : Ws} (h : StI S) (hgl : S.G.length = S.L.length) (eL : T.L = S.L) (eV : T.vars = S.vars) (eS : T.st = S.st) (eG : T.G.length = S.G.length) (hg : ∀ i, T.G.getD i false = false → S.G.getD i false = false) : StI T := by
  have hg2 : ∀ i : Nat, T.G[i]? = some false → S.G[i]? = some false := fun i h2 => by
    have h3 := hg i (by rw [List.getD, h2]; rfl)
    have hi := (List.getElem?_eq_some_iff.1 h2).1
    have hl : i < S.G.length := by omega
    rw [List.getElem?_eq_getElem hl]
    rw [List.getD, List.getElem?_eq_getElem hl] at h3
    simp only [Option.getD_some] at h3
    rw [h3]
  refine ⟨fun i c hc hgi n hn => ?_, fun n hn k c hk hc hgk => ?_, fun a k hk => ?_, fun a => ?_⟩
  · rw [eL] at hc
    rw [eS, eV]
    exact h.comp i c hc (hg2 i hgi) n hn
  · rw [eL] at hc
    rw [eS, eV] at hk
    rw [eL] at hn
    obtain ⟨d, hd, hnd⟩ := hasL_mem.1 hn
    exact h.sound n (hasL_mem.2 ⟨d, alive_less eG hgl hg hd, hnd⟩) k c hk hc (hg2 k hgk)
  · rw [eS] at hk
    rw [eL]
    exact h.lt a k hk
  · rw [eS]; exact h.up a
theorem empty_same (he : S.en = false) (h : firstW S 0 = none) : emptyS S = S := by
  unfold emptyS
  rw [h]
  show { S with en := false } = S
  rw [← he]
theorem firstW_lt {z i : Nat} (h : firstW S z = some i) : i < S.L.length := List.mem_range.1 (List.mem_of_find?_eq_some h)
/-- step 4 -/
theorem PB.step4 (h : PB S) (he : S.en = false) (h0 : firstW S 0 = none) {i : Nat} (h1 : firstW S 1 = some i) : PB (singleAll S) ∧ (singleAll S).en = false ∧ stepM S.vars (absW S) = some (absW (singleAll S)) := by
  have hu : unitM (alive S.L S.G) = some ((S.L.getD i []).headD 0) := by rw [unit_eq h.gd, h1]; rfl
  have hs : singleAll S = singleS S ((S.L.getD i []).headD 0) := by unfold singleAll; rw [h1]
  have hst := abs_single h.gd h.stI h.pln he h0 h1
  rw [hs] at hst ⊢
  generalize (S.L.getD i []).headD 0 = n at hu hs hst
  have hn : hasL (alive S.L S.G) n = true := hasL_mem.2 ⟨[n], unitM_spec hu, by simp⟩
  have hal := alive_single h.gd h.stI h.pln.1 hn
  have hbg : S.bg = false := by
    cases hq : S.bg with
    | false => rfl
    | true => rw [(h.bg1 hq).2.2] at h1; cases h1
  obtain ⟨a1, a2, a3⟩ := singleS_ns S n
  have hsz := fixC_lt n _ hn
  have hkeep : (singleS S n).bg = S.bg ∧ (singleS S n).first = S.first ∧ (singleS S n).sg = S.sg := by
    have h5 : ∀ (l : List Nat) (T : Ws), (cutsS (-n) T l).bg = T.bg ∧ (cutsS (-n) T l).first = T.first ∧ (cutsS (-n) T l).sg = T.sg := fun l T => by
      induction l using snoc_ind with
      | h0 => exact ⟨rfl, rfl, rfl⟩
      | h1 l k ih =>
        rw [cutsS_snoc]
        unfold cutS
        split <;> exact ih
    have h6 : (fixS S n).bg = S.bg ∧ (fixS S n).first = S.first ∧ (fixS S n).sg = S.sg := by
      unfold fixS
      rw [dropsS_eq]
      exact ⟨rfl, rfl, rfl⟩
    obtain ⟨b1, b2, b3⟩ := h5 (S.st (posN S.vars (-n))) { fixS S n with ns := S.ns + 1 }
    exact ⟨b1.trans h6.1, b2.trans h6.2.1, b3.trans h6.2.2⟩
  refine ⟨⟨(singleS_same S n ((h.stI.up _).imp (fun h => Nat.ne_of_lt h))).2.2.1.trans h.pl, by rw [a1, a3, List.length_append, List.length_singleton]; have := h.ns; omega, h.gd.single n, StI.single h.gd h.stI h.pln.1 hn, by rw [hal]; exact h.pln.fixC n, fun e => ?_, fun _ => ?_, ?_⟩, a2.trans he, hst⟩
  · rw [hkeep.1, hbg] at e; cases e
  · rw [hkeep.2.1, hkeep.2.2]
    exact h.bg0 hbg
  · rw [a3, hal, List.length_append, List.length_singleton]
    have := h.fx
    omega
/-- step 5 -/
theorem PB.step5 (h : PB S) (he : S.en = false) (h0 : firstW S 0 = none) (h1 : firstW S 1 = none) {n : Int} (h2 : loneW S = some n) : PB (loneS S) ∧ (loneS S).en = false ∧ stepM S.vars (absW S) = some (absW (loneS S)) := by
  have hs : loneS S = fixS S n := by unfold loneS; rw [h2]
  have hst := abs_lone h.gd h.stI h.pln he h0 h1 h2
  have hl : loneM S.vars (alive S.L S.G) = some n := by rw [← loneW_eq h.gd]; exact h2
  have hal := alive_lone h.gd h.stI h2
  have hsz := fixC_lt n _ (loneM_spec hl).1
  rw [hs] at hst ⊢
  obtain ⟨a1, a2, a3, a4, a5⟩ := fixS_same S n
  have hkeep : (fixS S n).bg = S.bg ∧ (fixS S n).first = S.first ∧ (fixS S n).sg = S.sg := by
    unfold fixS
    rw [dropsS_eq]
    exact ⟨rfl, rfl, rfl⟩
  refine ⟨⟨a5.trans h.pl, by rw [(fixS_ns S n).1, a4, List.length_append]; have := h.ns; omega, h.gd.fix n, h.stI.fix n, by rw [hal]; exact h.pln.fixC n, fun e => ?_, fun e => ?_, ?_⟩, (fixS_ns S n).2.trans he, hst⟩
  · rw [hkeep.1] at e
    exact ⟨(h.bg1 e).1.fix n, firstW_less a1 (fun i hi => fixS_gone hi) h0, firstW_less a1 (fun i hi => fixS_gone hi) h1⟩
  · rw [hkeep.1] at e
    rw [hkeep.2.1, hkeep.2.2]
    exact h.bg0 e
  · rw [a4, hal, List.length_append, List.length_singleton]
    have := h.fx
    omega
/-- step 6 -/
theorem PB.step6 (h : PB S) (he : S.en = false) (h0 : firstW S 0 = none) (h1 : firstW S 1 = none) (h2 : loneW S = none) {S' : Ws} (hc : CoverR S S' true) : PB S' ∧ S'.en = false ∧ stepM S.vars (absW S) = some (absW S') := by
  obtain ⟨S1, i, k, hsc, hb1, rfl, ⟨p1, p2, p3, p4, p5⟩, hci⟩ := hc
  have hst := abs_cover h.gd h.pln he h0 h1 h2 p1 p2 p3 p4 p5
  have hgk : S1.G.getD k false = false := by rw [hsc.G]; exact (aliveIx_mem.1 p2).2
  have hd : ∀ T : Ws, T.G.getD k false = false → dropS T k = { T with G := T.G.set k true, cn := subN T (T.L.getD k []) } := fun T hT => by
    unfold dropS
    rw [if_neg (by rw [hT]; simp)]
  have hab : absW (dropS S1 k) = absW (dropS S k) := by
    rw [hd S1 hgk, hd S (aliveIx_mem.1 p2).2]
    unfold absW
    simp only [hsc.L, hsc.G, hsc.fx, hsc.ns, hsc.en]
  obtain ⟨x, hx⟩ := List.getElem?_of_mem p2
  have hal : alive (dropS S1 k).L (dropS S1 k).G = (alive S.L S.G).eraseIdx x := by
    rw [hd S1 hgk]
    show alive S1.L (S1.G.set k true) = _
    rw [hsc.L, hsc.G]
    exact alive_drop h.gd.gl hx
  have hxl : x < (alive S.L S.G).length := by
    rw [alive_ix _ _ h.gd.gl, List.length_map]
    exact (List.getElem?_eq_some_iff.1 hx).1
  have hsame := dropS_same S1 k
  have hbgd : (dropS S1 k).bg = true := by rw [hd S1 hgk]; exact hb1
  refine ⟨⟨hsame.2.2.2.2.1.trans (hsc.pl.trans h.pl), by rw [hsame.2.2.2.1, hsc.fx, hd S1 hgk]; show S1.ns ≤ _; rw [hsc.ns]; exact h.ns, (hsc.gd h.gd).drop k, (hsc.stI h.stI).less (by rw [hsc.G, hsc.L]; exact h.gd.gl) hsame.1 hsame.2.1 hsame.2.2.1 hsame.2.2.2.2.2 (fun i hi => dropS_gone hi), by rw [hal]; exact h.pln.erase x, fun _ => ⟨hci, ?_, ?_⟩, fun e => ?_, ?_⟩, ?_, by rw [hab]; exact hst⟩
  · exact firstW_less (S := S) (by rw [hsame.1, hsc.L]) (fun i hi => by have := dropS_gone hi; rw [hsc.G] at this; exact this) h0
  · exact firstW_less (S := S) (by rw [hsame.1, hsc.L]) (fun i hi => by have := dropS_gone hi; rw [hsc.G] at this; exact this) h1
  · rw [hbgd] at e; cases e
  · rw [hsame.2.2.2.1, hsc.fx, hal]
    have h5 := erase_lt _ x hxl
    have h6 := h.fx
    omega
  · rw [hd S1 hgk]
    show S1.en = false
    rw [hsc.en]; exact he
/-- no step -/
theorem PB.done (h : PB S) (he : S.en = false) (h0 : firstW S 0 = none) (h1 : firstW S 1 = none) (h2 : loneW S = none) {S' : Ws} (hc : CoverR S S' false) : PB S' ∧ S'.en = false ∧ absW S' = absW S ∧ stepM S.vars (absW S) = none := by
  obtain ⟨hsc, hb, hci, hno⟩ := hc
  have hst := abs_done h.gd h.pln he h0 h1 h2 hno
  refine ⟨⟨hsc.pl.trans h.pl, by rw [hsc.ns, hsc.fx]; exact h.ns, hsc.gd h.gd, hsc.stI h.stI, by rw [hsc.L, hsc.G]; exact h.pln, fun _ => ⟨hci, ?_, ?_⟩, fun e => ?_, by rw [hsc.fx, hsc.L, hsc.G]; exact h.fx⟩, hsc.en.trans he, hsc.abs, hst⟩
  · exact firstW_less hsc.L (fun i hi => by rw [hsc.G] at hi; exact hi) h0
  · exact firstW_less hsc.L (fun i hi => by rw [hsc.G] at hi; exact hi) h1
  · rw [hb] at e; cases e
end
end Go.Proofs.Ytlcbfahaapodmaa
