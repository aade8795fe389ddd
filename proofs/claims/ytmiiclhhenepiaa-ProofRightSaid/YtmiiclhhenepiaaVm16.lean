/-
  Layer 16: what is kept while the checker goes on: the mathematics. Own work.
-/
import Derived.Test.YtmiiclhhenepiaaMv16
namespace Go.Proofs.Ytmiiclhhenepiaa
set_option linter.unusedVariables false
set_option linter.unusedSimpArgs false

structure Safe (S : St) (W : Nat → List Nat) : Prop where
  tn : S.trail.Nodup
  tr : ∀ x ∈ S.trail, x < 2 * S.vs.length
  tk : ∀ x, S.tk x = decide (x ∈ S.trail)
  hd : S.head ≤ S.trail.length
  ln : ∀ (n : Nat) c, S.list[n]? = some c → c.Nodup ∧ 2 ≤ c.length ∧ ∀ x ∈ c, x < 2 * S.vs.length
  wt : ∀ x n, n ∈ W x ↔ ∃ a b r, S.list[n]? = some (a :: b :: r) ∧ (a = x ∨ b = x)
  wn : ∀ x, (W x).Nodup
structure Lg (L : List (List Nat)) (A B G : Nat → Prop) (S : St) : Prop where
  con : ∀ x ∈ S.trail, ng x ∉ S.trail
  der : ∀ x ∈ S.trail, Der ng L A x
  sub : ∀ (n : Nat) c, S.list[n]? = some c → ∃ d ∈ L, ∀ m, m ∈ d ↔ m ∈ c
  all : ∀ d ∈ L, (∃ (n : Nat) (c : List Nat), S.list[n]? = some c ∧ ∀ m, m ∈ d ↔ m ∈ c) ∨ ∃ m ∈ d, G m
  wb : ∀ (n : Nat) c, S.list[n]? = some c → Wp ng B B c
  bt : ∀ x, B x → x ∈ S.trail
structure VI (L : List (List Nat)) (A B G P : Nat → Prop) (S0 : St) (lit : Nat) (row : List Nat) (i : Nat) (kp : List Nat) (S : St) : Prop where
  safe : Safe S (putW S.wat lit (kp ++ row.drop i))
  lg : Lg L A B G S
  wp : ∀ (n : Nat) c, S.list[n]? = some c → (n ∈ row.drop i → Wp ng P (fun x => x ∈ S.trail) c) ∧ (n ∉ row.drop i → Wp ng (And1 P (ng lit)) (fun x => x ∈ S.trail) c)
  lt : ng lit ∈ S.trail
  pt : ∀ x, P x → x ∈ S.trail
  pre : ∃ ext, S.trail = S0.trail ++ ext
  vs : S.vs = S0.vs
  head : S.head = S0.head
  broken : S.broken = S0.broken
  len : S.list.length = S0.list.length
  kl : kp.length ≤ i
section
variable {L : List (List Nat)} {A B G P : Nat → Prop} {S0 S : St} {lit n a x i : Nat} {row kp r r1 r2 : List Nat} {W W' : Nat → List Nat}
theorem Safe.tkI (h : Safe S W) {x : Nat} : S.tk x = true ↔ x ∈ S.trail := by rw [h.tk]; simp
theorem Safe.tkN (h : Safe S W) {x : Nat} : S.tk x = false ↔ x ∉ S.trail := by rw [h.tk]; simp
theorem Safe.rowLen (h : Safe S W) (x : Nat) : (W x).length ≤ S.list.length := by
  refine nodup_lt16 _ _ (h.wn x) fun n hn => ?_
  obtain ⟨a, b, r, h1, _⟩ := (h.wt x n).1 hn
  exact (List.getElem?_eq_some_iff.1 h1).1
theorem Safe.trLen (h : Safe S W) : S.trail.length ≤ 2 * S.vs.length := nodup_lt16 _ _ h.tn h.tr
theorem drop_at16 (h : row[i]? = some n) : row.drop i = n :: row.drop (i + 1) := by
  have hk := (List.getElem?_eq_some_iff.1 h).1
  rw [List.drop_eq_getElem_cons hk]
  rw [List.getElem?_eq_getElem hk] at h
  rw [Option.some.inj h]
theorem set_get {l : List (List Nat)} {n m : Nat} {d c : List Nat} (hn : n < l.length) (h : (l.set n d)[m]? = some c) : (m = n ∧ c = d) ∨ (m ≠ n ∧ l[m]? = some c) := by
  by_cases e : m = n
  · subst e
    rw [List.getElem?_set_self hn] at h
    exact .inl ⟨rfl, (Option.some.inj h).symm⟩
  · rw [List.getElem?_set_ne (fun h => e h.symm)] at h
    exact .inr ⟨e, h⟩
/-- a clause with the same literals, watched by others -/
theorem Lg.set (h : Lg L A B G S) {c d : List Nat} (hc : S.list[n]? = some c) (hm : ∀ m, m ∈ c ↔ m ∈ d) (hw : Wp ng B B d) (w : Nat → List Nat) : Lg L A B G { S with list := S.list.set n d, wat := w } := by
  have hn := (List.getElem?_eq_some_iff.1 hc).1
  refine ⟨h.con, h.der, fun m c' h' => ?_, fun d' hd' => ?_, fun m c' h' => ?_, h.bt⟩
  · rcases set_get hn h' with ⟨rfl, rfl⟩ | ⟨_, h'⟩
    · obtain ⟨d0, h1, h2⟩ := h.sub m c hc
      exact ⟨d0, h1, fun q => (h2 q).trans (hm q)⟩
    · exact h.sub m c' h'
  · rcases h.all d' hd' with ⟨m, c', h1, h2⟩ | h1
    · by_cases e : m = n
      · subst e
        rw [hc] at h1
        cases h1
        exact .inl ⟨m, d, List.getElem?_set_self hn, fun q => (h2 q).trans (hm q)⟩
      · exact .inl ⟨m, c', by show (S.list.set n d)[m]? = _; rw [List.getElem?_set_ne (fun h => e h.symm)]; exact h1, h2⟩
    · exact .inr h1
  · rcases set_get hn h' with ⟨rfl, rfl⟩ | ⟨_, h'⟩
    · exact hw
    · exact h.wb m c' h'
theorem VI.at (h : VI L A B G P S0 lit row i kp S) (hr : row[i]? = some n) : ∃ a b r, S.list[n]? = some (a :: b :: r) ∧ (a = lit ∨ b = lit) := by
  refine (h.safe.wt lit n).1 ?_
  unfold putW
  rw [if_pos rfl, drop_at16 hr]
  simp
theorem VI.nodup (h : VI L A B G P S0 lit row i kp S) : (kp ++ row.drop i).Nodup := by
  have := h.safe.wn lit
  unfold putW at this
  rw [if_pos rfl] at this
  exact this
/-- the first two change places -/
theorem VI.swap (h : VI L A B G P S0 lit row i kp S) {a b : Nat} (hr : row[i]? = some n) (hc : S.list[n]? = some (a :: b :: r)) : VI L A B G P S0 lit row i kp { S with list := S.list.set n (b :: a :: r) } := by
  have hn := (List.getElem?_eq_some_iff.1 hc).1
  have hp : ∀ m, m ∈ a :: b :: r ↔ m ∈ b :: a :: r := fun m => (List.Perm.swap _ _ _).mem_iff
  refine ⟨⟨h.safe.tn, h.safe.tr, h.safe.tk, h.safe.hd, fun m c' h' => ?_, fun y m => ?_, h.safe.wn⟩, (h.lg.set hc hp ((h.lg.wb n _ hc).swap) S.wat), fun m c' h' => ?_, h.lt, h.pt, h.pre, h.vs, h.head, h.broken, by simpa using h.len, h.kl⟩
  · rcases set_get hn h' with ⟨rfl, rfl⟩ | ⟨_, h'⟩
    · obtain ⟨h1, h2, h3⟩ := h.safe.ln m _ hc
      exact ⟨(List.Perm.swap _ _ _).nodup h1, h2, fun q hq => h3 q ((hp q).2 hq)⟩
    · exact h.safe.ln m c' h'
  · refine (h.safe.wt y m).trans ?_
    by_cases e : m = n
    · subst e
      constructor
      · rintro ⟨a', b', r', h1, h2⟩
        rw [hc] at h1
        cases h1
        exact ⟨b, a, r, List.getElem?_set_self hn, h2.symm⟩
      · rintro ⟨a', b', r', h1, h2⟩
        rw [show ({ S with list := S.list.set m (b :: a :: r) } : St).list = S.list.set m (b :: a :: r) from rfl, List.getElem?_set_self hn] at h1
        cases h1
        exact ⟨a, b, r, hc, h2.symm⟩
    · have : ({ S with list := S.list.set n (b :: a :: r) } : St).list[m]? = S.list[m]? := List.getElem?_set_ne (fun h => e h.symm)
      rw [this]
  · rcases set_get hn h' with ⟨rfl, rfl⟩ | ⟨_, h'⟩
    · exact ⟨fun hm => ((h.wp m _ hc).1 hm).swap, fun hm => ((h.wp m _ hc).2 hm).swap⟩
    · exact h.wp m c' h'
/-- another literal is watched -/
theorem VI.move (h : VI L A B G P S0 lit row i kp S) (hr : row[i]? = some n) (hc : S.list[n]? = some (a :: lit :: (r1 ++ x :: r2))) (hx : S.tk (ng x) = false) :
    VI L A B G P S0 lit row (i + 1) kp { S with list := S.list.set n (a :: x :: (r1 ++ lit :: r2)), wat := putW S.wat x (S.wat x ++ [n]) } := by
  have hn := (List.getElem?_eq_some_iff.1 hc).1
  obtain ⟨hnd, hln, hlt⟩ := h.safe.ln n _ hc
  have hxT := h.safe.tkN.1 hx
  have hperm : (a :: lit :: (r1 ++ x :: r2)).Perm (a :: x :: (r1 ++ lit :: r2)) := by
    refine List.Perm.cons _ ?_
    have e1 : (lit :: (r1 ++ x :: r2)).Perm (x :: lit :: (r1 ++ r2)) := ((List.perm_middle).cons lit).trans (List.Perm.swap _ _ _)
    have e2 : (x :: (r1 ++ lit :: r2)).Perm (x :: lit :: (r1 ++ r2)) := (List.perm_middle).cons x
    exact e1.trans e2.symm
  have hp : ∀ m, m ∈ a :: lit :: (r1 ++ x :: r2) ↔ m ∈ a :: x :: (r1 ++ lit :: r2) := fun m => hperm.mem_iff
  have hnd2 := hperm.nodup hnd
  have hxl : x ≠ lit := fun e => by rw [e] at hnd; simp at hnd
  have hax : a ≠ x := fun e => by rw [e] at hnd2; simp at hnd2
  have hal : a ≠ lit := fun e => by rw [e] at hnd; simp at hnd
  have hdr := drop_at16 hr
  have hN := h.nodup
  rw [hdr] at hN
  have hnk : n ∉ kp ++ row.drop (i + 1) := fun hm => by
    have : (n :: (kp ++ row.drop (i + 1))).Nodup := List.perm_middle.nodup hN
    exact (List.nodup_cons.1 this).1 hm
  have hlst : ∀ m, m ≠ n → ({ S with list := S.list.set n (a :: x :: (r1 ++ lit :: r2)), wat := putW S.wat x (S.wat x ++ [n]) } : St).list[m]? = S.list[m]? := fun m e => List.getElem?_set_ne (fun h => e h.symm)
  have hln2 : ({ S with list := S.list.set n (a :: x :: (r1 ++ lit :: r2)), wat := putW S.wat x (S.wat x ++ [n]) } : St).list[n]? = some (a :: x :: (r1 ++ lit :: r2)) := List.getElem?_set_self hn
  have hold : ∀ y m, y ≠ lit → (m ∈ S.wat y ↔ ∃ a b r, S.list[m]? = some (a :: b :: r) ∧ (a = y ∨ b = y)) := fun y m hy => by
    have := h.safe.wt y m
    unfold putW at this
    rw [if_neg (fun e => hy e.symm)] at this
    exact this
  have hnx : n ∉ S.wat x := fun hm => by
    obtain ⟨a', b', r', h1, h2⟩ := (hold x n hxl).1 hm
    rw [hc] at h1
    cases h1
    exact h2.elim hax (fun e => hxl e.symm)
  refine ⟨⟨h.safe.tn, h.safe.tr, h.safe.tk, h.safe.hd, fun m c' h' => ?_, fun y m => ?_, fun y => ?_⟩, (h.lg.set hc hp ?_ _), fun m c' h' => ?_, h.lt, h.pt, h.pre, h.vs, h.head, h.broken, by simpa using h.len, by have := h.kl; omega⟩
  · rcases set_get hn h' with ⟨rfl, rfl⟩ | ⟨_, h'⟩
    · exact ⟨hnd2, by simp, fun q hq => hlt q ((hp q).2 hq)⟩
    · exact h.safe.ln m c' h'
  · show m ∈ putW (putW S.wat x (S.wat x ++ [n])) lit (kp ++ row.drop (i + 1)) y ↔ _
    by_cases e : m = n
    · subst e
      rw [hln2]
      have hR : (∃ a' b' r', some (a :: x :: (r1 ++ lit :: r2)) = some (a' :: b' :: r') ∧ (a' = y ∨ b' = y)) ↔ (a = y ∨ x = y) := by
        constructor
        · rintro ⟨a', b', r', h1, h2⟩
          cases h1
          exact h2
        · exact fun h2 => ⟨a, x, _, rfl, h2⟩
      rw [hR]
      unfold putW
      by_cases h1 : lit = y
      · rw [if_pos h1]
        subst h1
        exact ⟨fun hm => absurd hm hnk, fun h2 => absurd h2 (by simp [hal, hxl])⟩
      · rw [if_neg h1]
        by_cases h2 : x = y
        · rw [if_pos h2]; simp [h2]
        · rw [if_neg h2, hold y m (fun e => h1 e.symm)]
          constructor
          · rintro ⟨a', b', r', h3, h4⟩
            rw [hc] at h3
            cases h3
            exact h4.elim .inl (fun e => absurd e h1)
          · rintro (h3 | h3)
            · exact ⟨a, lit, _, hc, .inl h3⟩
            · exact absurd h3 h2
    · rw [hlst m e]
      unfold putW
      by_cases h1 : lit = y
      · rw [if_pos h1]
        subst h1
        have := h.safe.wt lit m
        unfold putW at this
        rw [if_pos rfl, hdr] at this
        rw [← this]
        simp [e]
      · rw [if_neg h1]
        by_cases h2 : x = y
        · rw [if_pos h2, ← hold y m (fun e => h1 e.symm), ← h2]; simp [e]
        · rw [if_neg h2, hold y m (fun e => h1 e.symm)]
  · show (putW (putW S.wat x (S.wat x ++ [n])) lit (kp ++ row.drop (i + 1)) y).Nodup
    unfold putW
    by_cases h1 : lit = y
    · rw [if_pos h1]
      exact (List.nodup_cons.1 (List.perm_middle.nodup hN)).2
    · rw [if_neg h1]
      have hw : ∀ z, z ≠ lit → (S.wat z).Nodup := fun z hz => by
        have := h.safe.wn z
        unfold putW at this
        rw [if_neg (fun e => hz e.symm)] at this
        exact this
      by_cases h2 : x = y
      · rw [if_pos h2, List.nodup_append]
        exact ⟨hw x hxl, by simp, fun p hp q hq e => hnx (by rw [← List.mem_singleton.1 hq, ← e]; exact hp)⟩
      · rw [if_neg h2]; exact hw y (fun e => h1 e.symm)
  · exact base_moved (T := fun x => x ∈ S.trail) h.lg.bt h.lg.con h.lt (h.lg.wb n _ hc) hxT hnd2
  · rcases set_get hn h' with ⟨rfl, rfl⟩ | ⟨hne, h'⟩
    · have hin : m ∈ row.drop i := by rw [hdr]; simp
      refine ⟨fun hm => absurd (List.mem_append_right kp hm) hnk, fun _ => ?_⟩
      exact wp_moved (T := fun x => x ∈ S.trail) ng_ng h.lg.con h.pt h.lt ((h.wp m _ hc).1 hin) hxT hnd2
    · have := h.wp m c' h'
      rw [hdr] at this
      simp only [List.mem_cons, hne, false_or] at this
      exact this
/-- it is kept, and its first literal is true or taken -/
theorem VI.kept (h : VI L A B G P S0 lit row i kp S) (hr : row[i]? = some n) (hc : S.list[n]? = some (a :: lit :: r)) (hx : S.tk a = true ∨ ∀ m ∈ r, S.tk (ng m) = true) (hf : S.tk (ng a) = false) :
    VI L A B G P S0 lit row (i + 1) (kp ++ [n]) (takeS S a) := by
  have hn := (List.getElem?_eq_some_iff.1 hc).1
  obtain ⟨hnd, hln, hlt⟩ := h.safe.ln n _ hc
  have hnaT := h.safe.tkN.1 hf
  have hdr := drop_at16 hr
  have hN := h.nodup
  rw [hdr] at hN
  have hnk : n ∉ row.drop (i + 1) := fun hm => by
    have : (n :: (kp ++ row.drop (i + 1))).Nodup := List.perm_middle.nodup hN
    exact (List.nodup_cons.1 this).1 (List.mem_append_right _ hm)
  have hrow : kp ++ [n] ++ row.drop (i + 1) = kp ++ row.drop i := by rw [hdr]; simp
  have hkl : (kp ++ [n]).length ≤ i + 1 := by have := h.kl; simp; omega
  have hin : n ∈ row.drop i := by rw [hdr]; simp
  have hwp : ∀ (m : Nat) c, m ≠ n → S.list[m]? = some c → (m ∈ row.drop (i + 1) → Wp ng P (fun x => x ∈ S.trail) c) ∧ (m ∉ row.drop (i + 1) → Wp ng (And1 P (ng lit)) (fun x => x ∈ S.trail) c) := fun m c hne h' => by
    have := h.wp m c h'
    rw [hdr] at this
    simp only [List.mem_cons, hne, false_or] at this
    exact this
  cases hta : S.tk a with
  | true =>
    have haT := h.safe.tkI.1 hta
    have e : takeS S a = S := by unfold takeS; rw [if_pos hta]
    rw [e]
    refine ⟨by rw [hrow]; exact h.safe, h.lg, fun m c' h' => ?_, h.lt, h.pt, h.pre, h.vs, h.head, h.broken, h.len, hkl⟩
    by_cases hm : m = n
    · subst hm
      rw [hc] at h'
      cases h'
      exact ⟨fun hm => absurd hm hnk, fun _ => wp_true (T := fun x => x ∈ S.trail) h.lg.con h.pt h.lt hnd haT⟩
    · exact hwp m c' hm h'
  | false =>
    have haT := h.safe.tkN.1 hta
    have hx2 : ∀ m ∈ r, S.tk (ng m) = true := hx.elim (fun e => by rw [hta] at e; cases e) id
    have e : takeS S a = { S with tk := onT S.tk a, trail := S.trail ++ [a] } := by unfold takeS; rw [if_neg (by rw [hta]; simp)]
    rw [e]
    have hal : a < 2 * S.vs.length := hlt a (by simp)
    have hmem : ∀ y, y ∈ S.trail ++ [a] ↔ And1 (fun x => x ∈ S.trail) a y := fun y => by simp [And1]
    have hsub : ∀ y, y ∈ S.trail → y ∈ S.trail ++ [a] := fun y hy => List.mem_append_left _ hy
    refine ⟨⟨?_, ?_, ?_, ?_, h.safe.ln, ?_, ?_⟩, ⟨?_, ?_, h.lg.sub, h.lg.all, h.lg.wb, fun y hy => hsub y (h.lg.bt y hy)⟩, fun m c' h' => ?_, hsub _ h.lt, fun y hy => hsub y (h.pt y hy), ?_, h.vs, h.head, h.broken, h.len, hkl⟩
    · show (S.trail ++ [a]).Nodup
      rw [List.nodup_append]
      exact ⟨h.safe.tn, by simp, fun p hp q hq e => haT (by rw [← List.mem_singleton.1 hq, ← e]; exact hp)⟩
    · intro y hy
      rcases List.mem_append.1 hy with hy | hy
      · exact h.safe.tr y hy
      · rw [List.mem_singleton.1 hy]; exact hal
    · intro y
      show onT S.tk a y = decide (y ∈ S.trail ++ [a])
      unfold onT
      by_cases e : a = y
      · rw [if_pos e]; simp [e]
      · rw [if_neg e, h.safe.tk]
        have e' : ¬ y = a := fun h => e h.symm
        simp [e']
    · have := h.safe.hd
      show S.head ≤ (S.trail ++ [a]).length
      simp; omega
    · have := h.safe.wt
      rw [← hrow] at this
      exact this
    · have := h.safe.wn
      rw [← hrow] at this
      exact this
    · intro y hy hy2
      have hng : ng a ≠ a := fun e => by unfold ng at e; split at e <;> omega
      rcases List.mem_append.1 hy with hy | hy <;> rcases List.mem_append.1 hy2 with hy2 | hy2
      · exact h.lg.con y hy hy2
      · have : ng y = a := List.mem_singleton.1 hy2
        exact hnaT (by rw [← this, ng_ng]; exact hy)
      · have : y = a := List.mem_singleton.1 hy
        rw [this] at hy2
        exact hnaT hy2
      · have h1 : y = a := List.mem_singleton.1 hy
        have h2 : ng y = a := List.mem_singleton.1 hy2
        rw [h1] at h2
        exact hng h2
    · intro y hy
      rcases List.mem_append.1 hy with hy | hy
      · exact h.lg.der y hy
      · rw [List.mem_singleton.1 hy]
        exact unit_der (lit := lit) (r := r) (T := fun x => x ∈ S.trail) h.lg.der (h.lg.sub n _ hc) h.lt (fun m hm => h.safe.tkI.1 (hx2 m hm))
    · have hTe : (fun y => y ∈ S.trail ++ [a]) = And1 (fun x => x ∈ S.trail) a := funext fun y => propext (hmem y)
      show (m ∈ row.drop (i + 1) → Wp ng P (fun y => y ∈ S.trail ++ [a]) c') ∧ (m ∉ row.drop (i + 1) → Wp ng (And1 P (ng lit)) (fun y => y ∈ S.trail ++ [a]) c')
      by_cases hm : m = n
      · subst hm
        have h'2 : S.list[m]? = some c' := h'
        rw [hc] at h'2
        cases h'2
        refine ⟨fun hm => absurd hm hnk, fun _ => ?_⟩
        rw [hTe]
        refine wp_unit (T := fun x => x ∈ S.trail) h.pt h.lt hnd hnaT
      · exact ⟨fun h1 => ((hwp m c' hm h').1 h1).mono hsub, fun h1 => ((hwp m c' hm h').2 h1).mono hsub⟩
    · obtain ⟨ext, he⟩ := h.pre
      exact ⟨ext ++ [a], by show S.trail ++ [a] = _; rw [he, List.append_assoc]⟩
/-- a clause is false -/
theorem VI.conf (h : VI L A B G P S0 lit row i kp S) (hc : S.list[n]? = some (a :: lit :: r)) (hx : ∀ m ∈ r, S.tk (ng m) = true) (hf : S.tk (ng a) = true) : Conf ng L A :=
  unit_conf (lit := lit) (r := r) (T := fun x => x ∈ S.trail) h.lg.der (h.lg.sub n _ hc) h.lt (fun m hm => h.safe.tkI.1 (hx m hm)) (h.safe.tkI.1 hf)
end
end Go.Proofs.Ytmiiclhhenepiaa
