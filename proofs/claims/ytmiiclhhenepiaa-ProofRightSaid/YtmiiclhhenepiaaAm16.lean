/-
  Layer 16: what a further clause does: the mathematics. Own work.
-/
import Derived.Test.YtmiiclhhenepiaaLs16
namespace Go.Proofs.Ytmiiclhhenepiaa
set_option linter.unusedVariables false
set_option linter.unusedSimpArgs false

def nobody : Nat → Prop := fun _ => False
/-- at rest -/
structure Rest (L : List (List Nat)) (S : St) : Prop where
  safe : Safe S S.wat
  ok : S.broken = false → S.head = S.trail.length ∧ Lg L nobody (fun x => x ∈ S.trail) (fun x => x ∈ S.trail) S
  bad : S.broken = true → Conf ng L nobody
section
variable {L : List (List Nat)} {S : St} {d lits : List Nat} {a b : Nat} {r : List Nat} {W : Nat → List Nat}
theorem in_left {L : List (List Nat)} {d : List Nat} : ∀ c ∈ L, c ∈ L ++ [d] := fun c hc => List.mem_append_left _ hc
theorem Conf.left (h : Conf ng L nobody) : Conf ng (L ++ [d]) nobody := h.mono in_left (fun _ h => h)
theorem Safe.vs (h : Safe S W) {vs : List Nat} (hv : S.vs.length ≤ vs.length) : Safe ({ S with vs := vs } : St) W :=
  ⟨h.tn, fun x hx => by have := h.tr x hx; show x < 2 * vs.length; omega, h.tk, h.hd, fun n c hc => by
    obtain ⟨h1, h2, h3⟩ := h.ln n c hc
    exact ⟨h1, h2, fun x hx => by have := h3 x hx; show x < 2 * vs.length; omega⟩, h.wt, h.wn⟩
theorem Lg.vs {A B G : Nat → Prop} (h : Lg L A B G S) (vs : List Nat) : Lg L A B G ({ S with vs := vs } : St) := ⟨h.con, h.der, h.sub, h.all, h.wb, h.bt⟩
theorem Rest.vs (h : Rest L S) {vs : List Nat} (hv : S.vs.length ≤ vs.length) : Rest L ({ S with vs := vs } : St) :=
  ⟨h.safe.vs hv, fun e => ⟨(h.ok e).1, (h.ok e).2.vs vs⟩, h.bad⟩
theorem Safe.take (h : Safe S W) (ha : a < 2 * S.vs.length) : Safe (takeS S a) W := by
  unfold takeS
  split
  · exact h
  · rename_i hta
    have haT : a ∉ S.trail := fun e => hta (h.tkI.2 e)
    refine ⟨?_, ?_, ?_, ?_, h.ln, h.wt, h.wn⟩
    · show (S.trail ++ [a]).Nodup
      rw [List.nodup_append]
      exact ⟨h.tn, by simp, fun p hp q hq e => haT (by rw [← List.mem_singleton.1 hq, ← e]; exact hp)⟩
    · intro y hy
      rcases List.mem_append.1 hy with hy | hy
      · exact h.tr y hy
      · rw [List.mem_singleton.1 hy]; exact ha
    · intro y
      show onT S.tk a y = decide (y ∈ S.trail ++ [a])
      unfold onT
      by_cases e : a = y
      · rw [if_pos e]; simp [e]
      · rw [if_neg e, h.tk]
        have e' : ¬ y = a := fun h => e h.symm
        simp [e']
    · have := h.hd
      show S.head ≤ (S.trail ++ [a]).length
      simp; omega
theorem take_trail (h : Safe S W) (y : Nat) : y ∈ (takeS S a).trail ↔ y ∈ S.trail ∨ y = a := by
  unfold takeS
  split
  · rename_i hta
    constructor
    · exact .inl
    · rintro (h1 | rfl)
      · exact h1
      · exact h.tkI.1 hta
  · simp
theorem take_same (S : St) (a : Nat) : (takeS S a).vs = S.vs ∧ (takeS S a).list = S.list ∧ (takeS S a).wat = S.wat ∧ (takeS S a).head = S.head ∧ (takeS S a).broken = S.broken ∧ ∃ ext, (takeS S a).trail = S.trail ++ ext := by
  unfold takeS
  split
  · exact ⟨rfl, rfl, rfl, rfl, rfl, [], by simp⟩
  · exact ⟨rfl, rfl, rfl, rfl, rfl, [a], rfl⟩
theorem con_take {A B G : Nat → Prop} (hs : Safe S W) (h : Lg L A B G S) (hf : S.tk (ng a) = false) : ∀ x ∈ (takeS S a).trail, ng x ∉ (takeS S a).trail := by
  have hnaT := hs.tkN.1 hf
  have hng : ng a ≠ a := fun e => by unfold ng at e; split at e <;> omega
  intro y hy hy2
  rw [take_trail hs] at hy hy2
  rcases hy with hy | rfl <;> rcases hy2 with hy2 | hy2
  · exact h.con y hy hy2
  · exact hnaT (by rw [← hy2, ng_ng]; exact hy)
  · exact hnaT hy2
  · exact hng hy2
theorem wp_none {c : List Nat} (hn : c.Nodup) (hl : 2 ≤ c.length) : Wp ng nobody nobody c := by
  match c, hl with
  | a :: b :: r, _ => exact ⟨hn, a, b, r, rfl, fun h => h.elim, fun h => h.elim⟩
/-- none is left -/
theorem Rest.none (h : Rest L S) (hd : ∀ m, m ∈ d ↔ m ∈ lits) (hf : ∀ x ∈ lits, S.tk (ng x) = true) : Rest (L ++ [d]) ({ S with broken := true } : St) := by
  refine ⟨⟨h.safe.tn, h.safe.tr, h.safe.tk, h.safe.hd, h.safe.ln, h.safe.wt, h.safe.wn⟩, fun e => (by cases e), fun _ => ?_⟩
  cases hb : S.broken with
  | true => exact (h.bad hb).left
  | false => exact .inr ⟨d, by simp, fun m hm => ((h.ok hb).2.der _ (h.safe.tkI.1 (hf m ((hd m).1 hm)))).mono in_left (fun _ h => h)⟩
/-- one is left: ahead of goOn -/
theorem Rest.one (h : Rest L S) (hb : S.broken = false) (hd : ∀ m, m ∈ d ↔ m ∈ a :: r) (hf : S.tk (ng a) = false) (hr : ∀ x ∈ r, S.tk (ng x) = true) :
    Lg (L ++ [d]) nobody nobody (fun x => x ∈ (takeS S a).trail) (takeS S a) ∧ ∀ (n : Nat) c, (takeS S a).list[n]? = some c → Wp ng (fun x => x ∈ (takeS S a).trail.take (takeS S a).head) (fun x => x ∈ (takeS S a).trail) c := by
  obtain ⟨hhd, hlg⟩ := h.ok hb
  obtain ⟨e1, e2, e3, e4, e5, ext, e6⟩ := take_same S a
  have hder : ∀ x ∈ S.trail, Der ng (L ++ [d]) nobody x := fun x hx => (hlg.der x hx).mono in_left (fun _ h => h)
  refine ⟨⟨con_take h.safe hlg hf, fun x hx => ?_, fun n c hc => ?_, fun d' hd' => ?_, fun n c hc => ?_, fun x hx => hx.elim⟩, fun n c hc => ?_⟩
  · rw [take_trail h.safe] at hx
    rcases hx with hx | rfl
    · exact hder x hx
    · refine .unit (c := d) (by simp) ((hd _).2 (by simp)) fun m hm hne => ?_
      rcases List.mem_cons.1 ((hd m).1 hm) with rfl | hm2
      · exact absurd rfl hne
      · exact hder _ (h.safe.tkI.1 (hr m hm2))
  · rw [e2] at hc
    obtain ⟨d0, h1, h2⟩ := hlg.sub n c hc
    exact ⟨d0, in_left _ h1, h2⟩
  · rw [e2]
    rcases List.mem_append.1 hd' with hd' | hd'
    · rcases hlg.all d' hd' with h1 | ⟨m, h1, h2⟩
      · exact .inl h1
      · exact .inr ⟨m, h1, (take_trail h.safe m).2 (.inl h2)⟩
    · rw [List.mem_singleton.1 hd']
      exact .inr ⟨a, (hd a).2 (by simp), (take_trail h.safe a).2 (.inr rfl)⟩
  · rw [e2] at hc
    obtain ⟨h1, h2, _⟩ := h.safe.ln n c hc
    exact wp_none h1 h2
  · rw [e2] at hc
    have ht : (takeS S a).trail.take (takeS S a).head = S.trail := by rw [e4, e6, hhd]; simp
    rw [ht]
    exact (hlg.wb n c hc).mono (fun x hx => (take_trail h.safe x).2 (.inl hx))
/-- .. behind it -/
theorem rest_yes {S' : St} {G : Nat → Prop} (hs : Safe S' S'.wat) (hl : Lg L nobody nobody G S') (hG : ∀ x, G x → x ∈ S'.trail) (hh : S'.head = S'.trail.length) (hw : ∀ (n : Nat) c, S'.list[n]? = some c → Wp ng (fun x => x ∈ S'.trail) (fun x => x ∈ S'.trail) c) : Rest L ({ S' with broken := false } : St) := by
  refine ⟨⟨hs.tn, hs.tr, hs.tk, hs.hd, hs.ln, hs.wt, hs.wn⟩, fun _ => ⟨hh, ⟨hl.con, hl.der, hl.sub, fun d hd => ?_, hw, fun _ h => h⟩⟩, fun e => by cases e⟩
  rcases hl.all d hd with h | ⟨m, h1, h2⟩
  · exact .inl h
  · exact .inr ⟨m, h1, hG m h2⟩
theorem rest_no {S' : St} (hs : Safe S' S'.wat) (hc : Conf ng L nobody) : Rest L ({ S' with broken := true } : St) :=
  ⟨⟨hs.tn, hs.tr, hs.tk, hs.hd, hs.ln, hs.wt, hs.wn⟩, fun e => (by cases e), fun _ => hc⟩
/-- it is watched -/
def watN (f : Nat → List Nat) (N a b : Nat) : Nat → List Nat := putW (putW f a (f a ++ [N])) b (putW f a (f a ++ [N]) b ++ [N])
theorem Rest.two (h : Rest L S) (hd : ∀ m, m ∈ d ↔ m ∈ a :: b :: r) (hn : (a :: b :: r).Nodup) (hv : ∀ x ∈ a :: b :: r, x < 2 * S.vs.length) (ha : S.tk (ng a) = false) (hb : S.tk (ng b) = false) :
    Rest (L ++ [d]) ({ S with list := S.list ++ [a :: b :: r], wat := watN S.wat S.list.length a b } : St) := by
  have hab : a ≠ b := fun e => by rw [e] at hn; simp at hn
  have hlt : ∀ x n, n ∈ S.wat x → n < S.list.length := fun x n hx => by
    obtain ⟨_, _, _, h1, _⟩ := (h.safe.wt x n).1 hx
    exact (List.getElem?_eq_some_iff.1 h1).1
  have hwat : ∀ x n, n ∈ watN S.wat S.list.length a b x ↔ n ∈ S.wat x ∨ (n = S.list.length ∧ (a = x ∨ b = x)) := fun x n => by
    unfold watN putW
    by_cases h1 : b = x
    · rw [if_pos h1]
      subst h1
      rw [if_neg hab]
      simp
    · rw [if_neg h1]
      by_cases h2 : a = x
      · rw [if_pos h2]; simp [h2]
      · rw [if_neg h2]; simp [h1, h2]
  have hget : ∀ n c, (S.list ++ [a :: b :: r])[n]? = some c → S.list[n]? = some c ∨ (n = S.list.length ∧ c = a :: b :: r) := fun n c hc => get_snoc hc
  have hold : ∀ n c, S.list[n]? = some c → (S.list ++ [a :: b :: r])[n]? = some c := fun n c hc => by
    rw [List.getElem?_append_left (List.getElem?_eq_some_iff.1 hc).1]; exact hc
  have hnew : (S.list ++ [a :: b :: r])[S.list.length]? = some (a :: b :: r) := by rw [List.getElem?_append_right (Nat.le_refl _)]; simp
  refine ⟨⟨h.safe.tn, h.safe.tr, h.safe.tk, h.safe.hd, fun n c hc => ?_, fun x n => ?_, fun x => ?_⟩, fun hbr => ?_, fun hbr => (h.bad hbr).left⟩
  · rcases hget n c hc with hc | ⟨rfl, rfl⟩
    · exact h.safe.ln n c hc
    · exact ⟨hn, by simp, hv⟩
  · refine (hwat x n).trans ?_
    constructor
    · rintro (h1 | ⟨rfl, h1⟩)
      · obtain ⟨a', b', r', h2, h3⟩ := (h.safe.wt x n).1 h1
        exact ⟨a', b', r', hold n _ h2, h3⟩
      · exact ⟨a, b, r, hnew, h1⟩
    · rintro ⟨a', b', r', h2, h3⟩
      rcases hget n _ h2 with h4 | ⟨rfl, h4⟩
      · exact .inl ((h.safe.wt x n).2 ⟨a', b', r', h4, h3⟩)
      · injection h4 with h4 h5
        injection h5 with h5 h6
        subst h4 h5
        exact .inr ⟨rfl, h3⟩
  · show (watN S.wat S.list.length a b x).Nodup
    have hfr : ∀ y, S.list.length ∉ S.wat y := fun y hy => Nat.lt_irrefl _ (hlt y _ hy)
    have hap : ∀ y, (S.wat y ++ [S.list.length]).Nodup := fun y => by
      rw [List.nodup_append]
      exact ⟨h.safe.wn y, by simp, fun p hp q hq e => hfr y (by rw [← List.mem_singleton.1 hq, ← e]; exact hp)⟩
    unfold watN putW
    by_cases h1 : b = x
    · rw [if_pos h1, if_neg hab]; exact hap b
    · rw [if_neg h1]
      by_cases h2 : a = x
      · rw [if_pos h2]; exact hap a
      · rw [if_neg h2]; exact h.safe.wn x
  · obtain ⟨hhd, hlg⟩ := h.ok hbr
    refine ⟨hhd, ⟨hlg.con, fun x hx => (hlg.der x hx).mono in_left (fun _ h => h), fun n c hc => ?_, fun d' hd' => ?_, fun n c hc => ?_, fun _ h => h⟩⟩
    · rcases hget n c hc with hc | ⟨rfl, rfl⟩
      · obtain ⟨d0, h1, h2⟩ := hlg.sub n c hc
        exact ⟨d0, in_left _ h1, h2⟩
      · exact ⟨d, by simp, hd⟩
    · rcases List.mem_append.1 hd' with hd' | hd'
      · rcases hlg.all d' hd' with ⟨n, c, h1, h2⟩ | h1
        · exact .inl ⟨n, c, hold n c h1, h2⟩
        · exact .inr h1
      · rw [List.mem_singleton.1 hd']
        exact .inl ⟨_, _, hnew, hd⟩
    · rcases hget n c hc with hc | ⟨rfl, rfl⟩
      · exact hlg.wb n c hc
      · exact ⟨hn, a, b, r, rfl, fun hT => absurd hT (h.safe.tkN.1 ha), fun hT => absurd hT (h.safe.tkN.1 hb)⟩
/-! going through a clause's literals: those that aren't false go ahead -/
def SrI (fl : Nat → Bool) (lits pre post : List Nat) (f : Nat) : Prop :=
  (pre ++ post).Perm lits ∧ ((f = 0 ∧ ∀ x ∈ pre, fl x = true) ∨ (f = 1 ∧ ∃ a p, pre = a :: p ∧ fl a = false ∧ ∀ x ∈ p, fl x = true))
def SrD (fl : Nat → Bool) (lits ls : List Nat) (f : Nat) : Prop :=
  ls.Perm lits ∧ ((f = 0 ∧ ∀ x ∈ ls, fl x = true) ∨ (f = 1 ∧ ∃ a r, ls = a :: r ∧ fl a = false ∧ ∀ x ∈ r, fl x = true) ∨ (f = 2 ∧ ∃ a b r, ls = a :: b :: r ∧ fl a = false ∧ fl b = false))
variable {fl : Nat → Bool} {pre post : List Nat} {x f : Nat}
theorem SrI.skip (h : SrI fl lits pre (x :: post) f) (hx : fl x = true) : SrI fl lits (pre ++ [x]) post f := by
  obtain ⟨h1, h2⟩ := h
  refine ⟨by simpa using h1, ?_⟩
  rcases h2 with ⟨rfl, h2⟩ | ⟨rfl, a, p, rfl, h2, h3⟩
  · exact .inl ⟨rfl, fun y hy => (List.mem_append.1 hy).elim (h2 y) (fun h => by rw [List.mem_singleton.1 h]; exact hx)⟩
  · exact .inr ⟨rfl, a, p ++ [x], rfl, h2, fun y hy => (List.mem_append.1 hy).elim (h3 y) (fun h => by rw [List.mem_singleton.1 h]; exact hx)⟩
/-- the two cells change places -/
theorem SrI.front (h : SrI fl lits pre (x :: post) f) (hx : fl x = false) : ∃ y ls, (pre ++ x :: post)[f]? = some y ∧ ((pre ++ x :: post).set f x).set pre.length y = ls ∧
    ((f = 0 ∧ ∃ pre', pre'.length = pre.length + 1 ∧ ls = pre' ++ post ∧ SrI fl lits pre' post 1) ∨ (f = 1 ∧ SrD fl lits ls 2)) := by
  obtain ⟨h1, h2⟩ := h
  rcases h2 with ⟨rfl, h2⟩ | ⟨rfl, a, p, rfl, h2, h3⟩
  · cases pre with
    | nil => exact ⟨x, x :: post, rfl, rfl, .inl ⟨rfl, [x], rfl, rfl, h1, .inr ⟨rfl, x, [], rfl, hx, by simp⟩⟩⟩
    | cons p0 p =>
      refine ⟨p0, x :: (p ++ p0 :: post), rfl, by simp [List.set_append], .inl ⟨rfl, x :: (p ++ [p0]), by simp, by simp, ⟨?_, .inr ⟨rfl, x, p ++ [p0], rfl, hx, fun y hy => h2 y ?_⟩⟩⟩⟩
      · refine List.Perm.trans ?_ h1
        have e1 : (x :: (p ++ [p0]) ++ post).Perm (x :: p0 :: (p ++ post)) := by
          refine List.Perm.cons _ ?_
          show (p ++ [p0] ++ post).Perm _
          rw [List.append_assoc]
          exact List.perm_middle
        have e2 : (p0 :: p ++ x :: post).Perm (x :: p0 :: (p ++ post)) := List.perm_middle (l₁ := p0 :: p)
        exact e1.trans e2.symm
      · rcases List.mem_append.1 hy with h | h
        · exact List.mem_cons_of_mem _ h
        · rw [List.mem_singleton.1 h]; simp
  · cases p with
    | nil => exact ⟨x, a :: x :: post, rfl, rfl, .inr ⟨rfl, h1, .inr (.inr ⟨rfl, a, x, post, rfl, h2, hx⟩)⟩⟩
    | cons p0 p =>
      refine ⟨p0, a :: x :: (p ++ p0 :: post), rfl, by simp [List.set_append], .inr ⟨rfl, ?_, .inr (.inr ⟨rfl, a, x, _, rfl, h2, hx⟩)⟩⟩
      refine List.Perm.trans ?_ h1
      refine List.Perm.cons _ ?_
      have e1 : (x :: (p ++ p0 :: post)).Perm (x :: p0 :: (p ++ post)) := List.perm_middle.cons x
      have e2 : (p0 :: p ++ x :: post).Perm (x :: p0 :: (p ++ post)) := List.perm_middle (l₁ := p0 :: p)
      exact e1.trans e2.symm
theorem SrI.done (h : SrI fl lits pre [] f) : SrD fl lits pre f := by
  obtain ⟨h1, h2⟩ := h
  refine ⟨by simpa using h1, ?_⟩
  rcases h2 with h2 | ⟨rfl, a, p, rfl, h2, h3⟩
  · exact .inl h2
  · exact .inr (.inl ⟨rfl, a, p, rfl, h2, h3⟩)
end
end Go.Proofs.Ytmiiclhhenepiaa
