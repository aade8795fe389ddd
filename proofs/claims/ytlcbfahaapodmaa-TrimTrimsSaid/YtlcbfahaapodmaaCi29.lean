/-
  Layer 29: how far step 6 came: mathematics. Own work.
-/
import Derived.Test.YtlcbfahaapodmaaWd29
import Derived.Test.YtlcbfahaapodmaaAb29
namespace Go.Proofs.Ytlcbfahaapodmaa
set_option linter.unusedVariables false
set_option linter.unusedSimpArgs false

/-- the same but for what step 6 keeps -/
def SameC (S T : Ws) : Prop := T = { S with bg := T.bg, first := T.first, lit := T.lit, next := T.next, mb := T.mb, sg := T.sg }
theorem SameC.refl (S : Ws) : SameC S S := rfl
theorem SameC.vars {S T : Ws} (h : SameC S T) : T.vars = S.vars := by rw [h]
theorem SameC.L {S T : Ws} (h : SameC S T) : T.L = S.L := by rw [h]
theorem SameC.G {S T : Ws} (h : SameC S T) : T.G = S.G := by rw [h]
theorem SameC.st {S T : Ws} (h : SameC S T) : T.st = S.st := by rw [h]
theorem SameC.cn {S T : Ws} (h : SameC S T) : T.cn = S.cn := by rw [h]
theorem SameC.pl {S T : Ws} (h : SameC S T) : T.pl = S.pl := by rw [h]
theorem SameC.en {S T : Ws} (h : SameC S T) : T.en = S.en := by rw [h]
theorem SameC.fx {S T : Ws} (h : SameC S T) : T.fx = S.fx := by rw [h]
theorem SameC.ns {S T : Ws} (h : SameC S T) : T.ns = S.ns := by rw [h]
theorem SameC.trans {S T U : Ws} (h : SameC S T) (k : SameC T U) : SameC S U := by
  unfold SameC at *
  rw [k, h]
theorem SameC.gd {S T : Ws} (h : SameC S T) (g : Gd S) : Gd T := ⟨by rw [h.G, h.L]; exact g.gl, by rw [h.vars]; exact g.vars, by rw [h.L, h.vars]; exact g.lits, by rw [h.L]; exact g.size, fun a => by rw [h.cn, h.vars, h.L, h.G]; exact g.cnt a⟩
theorem SameC.stI {S T : Ws} (h : SameC S T) (g : StI S) : StI T := ⟨by rw [h.L, h.G, h.vars, h.st]; exact g.comp, by rw [h.L, h.G, h.vars, h.st]; exact g.sound, by rw [h.L, h.st]; exact g.lt, by rw [h.st]; exact g.up⟩
theorem SameC.abs {S T : Ws} (h : SameC S T) : absW T = absW S := by unfold absW; rw [h.L, h.G, h.fx, h.ns, h.en]
theorem SameC.cov {S T : Ws} (h : SameC S T) (i k : Nat) : coversW T i k = coversW S i k := by unfold coversW; rw [h.L]
/-- how far step 6 came -/
structure CI (S : Ws) : Prop where
  mok : MkOk S
  sg : S.sg = S.L.map (sgnM S.vars)
  first : S.first ≤ S.L.length
  lit : S.first < S.L.length → S.lit ∈ S.L.getD S.first []
  next : S.next ≤ 1000000
  done : ∀ i, i < S.first → S.G.getD i false = false → ∀ k, k < S.L.length → S.G.getD k false = false → coversW S i k = false
  part : S.first < S.L.length → NoC S 0 S.next
/-- clauses go -/
theorem CI.less {S T : Ws} (h : CI S) (e : T = { S with G := T.G, fx := T.fx, ns := T.ns, cn := T.cn, en := T.en }) (hg : ∀ i, i < S.L.length → T.G.getD i false = false → S.G.getD i false = false) : CI T := by
  have eL : T.L = S.L := by rw [e]
  have eF : T.first = S.first := by rw [e]
  have eV : T.vars = S.vars := by rw [e]
  have eM : T.mb = S.mb := by rw [e]
  have eN : T.next = S.next := by rw [e]
  have eT : T.lit = S.lit := by rw [e]
  have eS : T.sg = S.sg := by rw [e]
  have eSt : T.st = S.st := by rw [e]
  have eC : ∀ i k, coversW T i k = coversW S i k := fun i k => by unfold coversW; rw [eL]
  have eLs : lstC T = lstC S := by unfold lstC; rw [eSt, eV, eT]
  refine ⟨⟨by unfold wide; rw [eM, eV]; exact h.mok.len, by rw [eM, eL, eF, eV]; exact h.mok.mks⟩, by rw [eS, eL, eV]; exact h.sg, by rw [eF, eL]; exact h.first, by rw [eF, eL, eT]; exact h.lit, by rw [eN]; exact h.next, fun i hi h1 k hk h2 => ?_, fun hf j k h1 h2 h3 h4 => ?_⟩
  · rw [eF] at hi
    rw [eL] at hk
    rw [eC]
    exact h.done i hi (hg i (by have := h.first; omega) h1) k hk (hg k hk h2)
  · rw [eN] at h2
    rw [eLs] at h3
    rw [eF, eL] at hf
    rw [eC, eF]
    by_cases hk : k < S.L.length
    · exact h.part hf j k h1 h2 h3 (hg k hk h4)
    · have e1 : S.L.getD k [] = [] := by simp [List.getD, List.getElem?_eq_none (Nat.not_lt.1 hk)]
      have hl := h.lit hf
      unfold coversW
      rw [e1]
      have : ((S.L.getD S.first []).all fun n => decide (n ∈ ([] : List Int))) = false := by
        rw [List.all_eq_false]
        exact ⟨S.lit, hl, by simp⟩
      rw [this, Bool.and_false]
theorem dropS_gone {S : Ws} {k i : Nat} (h : (dropS S k).G.getD i false = false) : S.G.getD i false = false := by
  unfold dropS at h
  split at h
  · exact h
  · have h2 : (S.G.set k true).getD i false = false := h
    clear h
    rw [List.getD, List.getElem?_set] at h2
    by_cases hki : k = i
    · rw [if_pos hki] at h2
      subst hki
      by_cases hl : k < S.G.length
      · rw [if_pos hl] at h2; cases h2
      · simp [List.getD, List.getElem?_eq_none (Nat.not_lt.1 hl)]
    · rw [if_neg hki] at h2; exact h2
theorem CI.drop {S : Ws} (h : CI S) (k : Nat) : CI (dropS S k) := h.less (by unfold dropS; split <;> rfl) (fun i _ hi => dropS_gone hi)
theorem dropsS_eq (S : Ws) (l : List Nat) : dropsS S l = { S with G := (dropsS S l).G, cn := (dropsS S l).cn } := by
  induction l using snoc_ind with
  | h0 => rfl
  | h1 l k ih =>
    rw [dropsS_snoc]
    generalize hT : dropsS S l = T at ih ⊢
    unfold dropS
    split
    · exact ih
    · rw [ih]
theorem CI.fix {S : Ws} (h : CI S) (n : Int) : CI (fixS S n) := by
  refine h.less ?_ (fun i hi hg => ?_)
  · unfold fixS
    rw [dropsS_eq]
  · have e := dropsS_gone { S with fx := S.fx ++ [n] } (S.st (posN S.vars n)) i
    have e' : (fixS S n).G[i]? = (S.G[i]?).map fun b => b || decide (i ∈ S.st (posN S.vars n)) := e
    rw [List.getD, e'] at hg
    cases hq : S.G[i]? with
    | none => simp [List.getD, hq]
    | some b =>
      rw [hq] at hg
      cases b with
      | false => simp [List.getD, hq]
      | true => simp at hg
/-- all clauses that the first one covers stand in its literal's list -/
theorem cov_in {S : Ws} (hst : StI S) {k : Nat} (hl : S.lit ∈ S.L.getD S.first []) (hk : k < S.L.length) (hg : S.G[k]? = some false) (hc : coversW S S.first k = true) : k ∈ lstC S := by
  unfold coversW at hc
  simp only [Bool.and_eq_true] at hc
  have h1 := List.all_eq_true.1 hc.2 _ hl
  have h2 : S.lit ∈ S.L[k] := by
    have : S.L.getD k [] = S.L[k] := by simp [List.getD, hk]
    rw [← this]; simpa using h1
  exact hst.comp k _ (List.getElem?_eq_getElem hk) hg _ h2
theorem gone_some {S : Ws} (hg : Gd S) {k : Nat} (hk : k < S.L.length) (h : S.G.getD k false = false) : S.G[k]? = some false := by
  have : k < S.G.length := by rw [hg.gl]; exact hk
  rw [List.getElem?_eq_getElem this]
  simp only [List.getD, List.getElem?_eq_getElem this, Option.getD_some] at h
  rw [h]
/-- a pair: it is the first one -/
theorem CI.pair {S : Ws} (h : CI S) (hg : Gd S) (hst : StI S) (hf : S.first < S.L.length) {k nx : Nat} (hw : WiderR S (some k) nx) :
    S.first ∈ aliveIx S.L S.G ∧ k ∈ aliveIx S.L S.G ∧ coversW S S.first k = true ∧ (∀ j, j ∈ aliveIx S.L S.G → j < S.first → ∀ m, m ∈ aliveIx S.L S.G → coversW S j m = false) ∧ (∀ m, m ∈ aliveIx S.L S.G → m < k → coversW S S.first m = false) ∧ CI (dropS { S with next := nx } k) := by
  obtain ⟨h1, h2, h3, j, rfl, h5, h6, h7⟩ := hw
  have hkL : k < S.L.length := hst.lt _ k (List.mem_of_getElem? h6)
  refine ⟨aliveIx_mem.2 ⟨hf, h1⟩, aliveIx_mem.2 ⟨hkL, h2⟩, h3, fun i hi hlt m hm => ?_, fun m hm hlt => ?_, ?_⟩
  · obtain ⟨i1, i2⟩ := aliveIx_mem.1 hi
    obtain ⟨m1, m2⟩ := aliveIx_mem.1 hm
    exact h.done i hlt i2 m m1 m2
  · obtain ⟨m1, m2⟩ := aliveIx_mem.1 hm
    cases hq : coversW S S.first m with
    | false => rfl
    | true =>
      have hin := cov_in hst (h.lit hf) m1 (gone_some hg m1 m2) hq
      obtain ⟨x, hx⟩ := List.getElem?_of_mem hin
      have hup := (up_lt (hst.up _) hx h6).1
      have hxj : x < j := hup.2 hlt
      by_cases hx2 : x < S.next
      · exact hq.symm.trans (h.part hf x m (Nat.zero_le _) hx2 hx m2)
      · exact hq.symm.trans (h7 x m (by omega) hxj hx m2)
  · have hj6 : j ≤ 1000000 := by
      have h8 := (List.getElem?_eq_some_iff.1 h6).1
      have h9 := hst.stLen (posN S.vars S.lit)
      have h10 := size_len S.L
      have h11 := hg.size
      have : (lstC S).length = (S.st (posN S.vars S.lit)).length := rfl
      omega
    have h1j : CI { S with next := j } := ⟨⟨h.mok.len, h.mok.mks⟩, h.sg, h.first, h.lit, hj6, h.done, fun _ x m _ hx hm hm2 => by
      show coversW S S.first m = false
      by_cases hx2 : x < S.next
      · exact h.part hf x m (Nat.zero_le _) hx2 hm hm2
      · exact h7 x m (by omega) hx hm hm2⟩
    have hd := h1j.drop k
    have e : dropS { S with next := j + 1 } k = { dropS { S with next := j } k with next := j + 1 } := by
      unfold dropS
      simp only []
      split <;> rfl
    rw [e]
    have e2 : (dropS { S with next := j } k).first = S.first ∧ (dropS { S with next := j } k).next = j ∧ (dropS { S with next := j } k).L = S.L ∧ lstC (dropS { S with next := j } k) = lstC S ∧ (dropS { S with next := j } k).G.getD k false = true := by
      unfold dropS
      simp only []
      split
      · next hh => exact ⟨rfl, rfl, rfl, rfl, hh⟩
      · refine ⟨rfl, rfl, rfl, rfl, ?_⟩
        show (S.G.set k true).getD k false = true
        have : k < S.G.length := by rw [hg.gl]; exact hkL
        simp [List.getD, this]
    generalize dropS { S with next := j } k = T at hd e2 ⊢
    obtain ⟨t1, t2, t3, t4, t5⟩ := e2
    have hjL : j + 1 ≤ 1000000 := by
      have h8 := (List.getElem?_eq_some_iff.1 h6).1
      have h9 := hst.stLen (posN S.vars S.lit)
      have h10 := size_len S.L
      have h11 := hg.size
      have : (lstC S).length = (S.st (posN S.vars S.lit)).length := rfl
      omega
    have hq : ∀ x m, x < j + 1 → (lstC T)[x]? = some m → T.G.getD m false = false → T.first < T.L.length → coversW T T.first m = false := fun x m hx hm hm2 hfT => by
      by_cases hx2 : x < j
      · exact hd.part hfT x m (Nat.zero_le _) (by omega) hm hm2
      · have : x = j := by omega
        subst this
        rw [t4, h6] at hm
        cases hm
        rw [t5] at hm2
        cases hm2
    exact ⟨⟨hd.mok.len, hd.mok.mks⟩, hd.sg, hd.first, hd.lit, hjL, hd.done, fun hfT x m _ hx hm hm2 => hq x m hx hm hm2 hfT⟩
/-- which places are marked -/
theorem markL_at (vars : Nat) (m : List Bool) (c : List Int) (b : Bool) (a : Nat) : (markL vars m c b)[a]? = if ∃ n ∈ c, posN vars n = a then (m[a]?).map (fun _ => b) else m[a]? := by
  induction c using snoc_ind with
  | h0 => simp [markL]
  | h1 l n ih =>
    rw [markL_snoc, List.getElem?_set]
    by_cases hn : posN vars n = a
    · have hex : ∃ x ∈ l ++ [n], posN vars x = a := ⟨n, by simp, hn⟩
      rw [if_pos hn, markL_len]
      by_cases hl : posN vars n < m.length
      · rw [if_pos hl, if_pos hex]
        subst hn
        rw [List.getElem?_eq_getElem hl]; rfl
      · rw [if_neg hl, if_pos hex]
        subst hn
        rw [List.getElem?_eq_none (Nat.not_lt.1 hl)]; rfl
    · rw [if_neg hn, ih]
      have : (∃ x ∈ l ++ [n], posN vars x = a) ↔ ∃ x ∈ l, posN vars x = a := by
        constructor
        · rintro ⟨x, hx, h⟩
          rcases List.mem_append.1 hx with hx | hx
          · exact ⟨x, hx, h⟩
          · simp at hx; subst hx; exact absurd h hn
        · rintro ⟨x, hx, h⟩; exact ⟨x, by simp [hx], h⟩
      by_cases hq : ∃ x ∈ l, posN vars x = a
      · rw [if_pos hq, if_pos (this.2 hq)]
      · rw [if_neg hq, if_neg (fun h => hq (this.1 h))]
/-- the marks are literals of the first clause -/
structure MkOn (S : Ws) : Prop where
  len : S.mb.length = wide S
  only : ∀ a : Nat, S.mb[a]? = some true → ∃ n ∈ S.L.getD S.first [], posN S.vars n = a
theorem MkOk.on {S : Ws} (h : MkOk S) : MkOn S := ⟨h.len, fun a ha => by
  obtain ⟨c, hc, n, hn, h2⟩ := (h.mks a true ha).1 rfl
  exact ⟨n, by simpa [List.getD, hc] using hn, h2⟩⟩
theorem holdB_ok {S : Ws} (h : MkOn S) (r : Nat) (l : Int) : MkOk (holdS S r l) := by
  have h1 : ∀ (a : Nat) b, (markS S S.first false).mb[a]? = some b → b = false := fun a b hb => by
    unfold markS at hb
    split at hb
    · have hb : (markL S.vars S.mb (S.L.getD S.first []) false)[a]? = some b := hb
      rw [markL_at] at hb
      split at hb
      · cases hq : S.mb[a]? with
        | none => rw [hq] at hb; cases hb
        | some x => rw [hq] at hb; simp at hb; first | exact hb | exact hb.symm
      · next hn =>
        cases b with
        | false => rfl
        | true => exact absurd (h.only a hb) hn
    · next hf =>
      cases b with
      | false => rfl
      | true =>
        obtain ⟨n, hn, _⟩ := h.only a hb
        simp [List.getD, List.getElem?_eq_none (Nat.not_lt.1 hf)] at hn
  refine ⟨?_, fun a b hb => ?_⟩
  · show (holdB S r).length = wide S
    unfold holdB
    rw [markS_len, markS_len, h.len]
  · have hb : (holdB S r)[a]? = some b := hb
    show b = true ↔ ∃ c, S.L[r]? = some c ∧ ∃ n ∈ c, posN S.vars n = a
    unfold holdB at hb
    generalize hT : markS S S.first false = T at h1 hb
    have hTL : T.L = S.L := by rw [← hT]; exact markS_L _ _ _
    have hTV : T.vars = S.vars := by rw [← hT, markS_same]
    unfold markS at hb
    split at hb
    · next hr =>
      have hb : (markL T.vars T.mb (T.L.getD r []) true)[a]? = some b := hb
      rw [markL_at, hTV, hTL] at hb
      rw [hTL] at hr
      have e1 : S.L.getD r [] = S.L[r] := by simp [List.getD, hr]
      have e2 : S.L[r]? = some S.L[r] := List.getElem?_eq_getElem hr
      split at hb
      · next hq =>
        cases hm : T.mb[a]? with
        | none => rw [hm] at hb; cases hb
        | some x =>
          rw [hm] at hb
          simp at hb
          subst hb
          refine ⟨fun _ => ?_, fun _ => rfl⟩
          rw [e1] at hq
          exact ⟨_, e2, hq⟩
      · next hq =>
        have := h1 a b hb
        subst this
        refine ⟨fun h => (by cases h), fun h => ?_⟩
        obtain ⟨c, hc, hn⟩ := h
        rw [e2] at hc
        cases hc
        rw [e1] at hq
        exact absurd hn hq
    · next hr =>
      have := h1 a b hb
      subst this
      refine ⟨fun h => (by cases h), fun h => ?_⟩
      obtain ⟨c, hc, _⟩ := h
      rw [hTL] at hr
      rw [List.getElem?_eq_none (Nat.not_lt.1 hr)] at hc
      cases hc
/-- behind hold -/
theorem CI.hold {S : Ws} (h1 : MkOn S) (h2 : S.sg = S.L.map (sgnM S.vars)) {i r : Nat} {l : Int} (hn : NextA S i r) (hl : r < S.L.length → l ∈ S.L.getD r [])
    (hd : ∀ j, j < i → S.G.getD j false = false → ∀ k, k < S.L.length → S.G.getD k false = false → coversW S j k = false) : CI (holdS S r l) := by
  obtain ⟨n1, n2, n3, n4⟩ := hn
  refine ⟨holdB_ok h1 r l, h2, n2, hl, Nat.zero_le _, fun j hj hg k hk hgk => ?_, fun _ x m h0 hx _ _ => absurd hx (Nat.not_lt_zero _)⟩
  have hj : j < r := hj
  by_cases hji : j < i
  · exact hd j hji hg k hk hgk
  · have := n3 j (by omega) hj
    have hg : S.G.getD j false = false := hg
    rw [this] at hg
    cases hg
/-- the first clause covers none -/
theorem CI.none {S : Ws} (h : CI S) (hg : Gd S) (hst : StI S) (hf : S.first < S.L.length) {nx : Nat} (hw : WiderR S none nx) :
    ∀ j, j < S.first + 1 → S.G.getD j false = false → ∀ k, k < S.L.length → S.G.getD k false = false → coversW S j k = false := by
  intro j hj hgj k hk hgk
  by_cases hjf : j < S.first
  · exact h.done j hjf hgj k hk hgk
  · have : j = S.first := by omega
    subst this
    rcases hw with ⟨h1, _⟩ | ⟨_, h2, h3, h4⟩
    · rw [h1] at hgj; cases hgj
    · cases hq : coversW S S.first k with
      | false => rfl
      | true =>
        have hin := cov_in hst (h.lit hf) hk (gone_some hg hk hgk) hq
        obtain ⟨x, hx⟩ := List.getElem?_of_mem hin
        have hxl := (List.getElem?_eq_some_iff.1 hx).1
        by_cases hx2 : x < S.next
        · exact hq.symm.trans (h.part hf x k (Nat.zero_le _) hx2 hx hgk)
        · exact hq.symm.trans (h4 x k (by omega) (by omega) hx hgk)
theorem mkOn_next {S : Ws} {nx : Nat} (h : MkOn S) : MkOn { S with next := nx } := ⟨h.len, h.only⟩
/-- all were held: no pair -/
theorem CI.end {S : Ws} (h : CI S) (hf : S.first = S.L.length) : ∀ i k, i ∈ aliveIx S.L S.G → k ∈ aliveIx S.L S.G → coversW S i k = false := by
  intro i k hi hk
  obtain ⟨i1, i2⟩ := aliveIx_mem.1 hi
  obtain ⟨k1, k2⟩ := aliveIx_mem.1 hk
  exact h.done i (by omega) i2 k k1 k2
end Go.Proofs.Ytlcbfahaapodmaa
