/-
  Layer 16: what follows by units, as the least set that is closed: the mathematics. Own work.
-/
import Derived.Test.YtmiiclhhenepiaaBase
namespace Go.Proofs.Ytmiiclhhenepiaa
set_option linter.unusedVariables false
set_option linter.unusedSimpArgs false

section
variable {α β : Type} {ng : α → α} {L M : List (List α)} {A B : α → Prop} {n : α}
/-- the literals that are taken: A's, and each that alone is left of a clause -/
inductive Der (ng : α → α) (L : List (List α)) (A : α → Prop) : α → Prop
  | base {n : α} : A n → Der ng L A n
  | unit {c : List α} {n : α} : c ∈ L → n ∈ c → (∀ m ∈ c, m ≠ n → Der ng L A (ng m)) → Der ng L A n
/-- a clause, or a literal and the other one, is false -/
def Conf (ng : α → α) (L : List (List α)) (A : α → Prop) : Prop := (∃ n, Der ng L A n ∧ Der ng L A (ng n)) ∨ ∃ c ∈ L, ∀ m ∈ c, Der ng L A (ng m)
theorem Der.mono (hL : ∀ c ∈ L, c ∈ M) (hA : ∀ n, A n → B n) (h : Der ng L A n) : Der ng M B n := by
  induction h with
  | base h => exact .base (hA _ h)
  | unit hc hn _ ih => exact .unit (hL _ hc) hn ih
theorem Conf.mono (hL : ∀ c ∈ L, c ∈ M) (hA : ∀ n, A n → B n) (h : Conf ng L A) : Conf ng M B := by
  rcases h with ⟨n, h1, h2⟩ | ⟨c, hc, h⟩
  · exact .inl ⟨n, h1.mono hL hA, h2.mono hL hA⟩
  · exact .inr ⟨c, hL c hc, fun m hm => (h m hm).mono hL hA⟩
/-- closed: it has A's, and each literal that alone is left of a clause -/
def Shut (ng : α → α) (L : List (List α)) (A T : α → Prop) : Prop := (∀ n, A n → T n) ∧ ∀ c ∈ L, ∀ n ∈ c, (∀ m ∈ c, m ≠ n → T (ng m)) → T n
theorem Der.least {T : α → Prop} (hT : Shut ng L A T) (h : Der ng L A n) : T n := by
  induction h with
  | base h => exact hT.1 _ h
  | unit hc hn _ ih => exact hT.2 _ hc _ hn ih
theorem der_shut : Shut ng L A (Der ng L A) := ⟨fun _ h => .base h, fun _ hc _ hn h => .unit hc hn h⟩
/-- closed, and nothing false: no conflict -/
theorem no_conf {T : α → Prop} (hT : Shut ng L A T) (h1 : ∀ n, T n → ¬ T (ng n)) (h2 : ∀ c ∈ L, ∃ m ∈ c, ¬ T (ng m)) : ¬ Conf ng L A := by
  rintro (⟨n, ha, hb⟩ | ⟨c, hc, h⟩)
  · exact h1 n (ha.least hT) (hb.least hT)
  · obtain ⟨m, hm, hn⟩ := h2 c hc
    exact hn ((h m hm).least hT)
/-- taken one behind another: what was derived already may be given -/
theorem Der.idem (hB : ∀ n, B n → Der ng L A n) (h : Der ng L B n) : Der ng L A n := h.least ⟨hB, fun _ hc _ hn h => .unit hc hn h⟩
theorem der_more (hB : ∀ n, B n → Der ng L A n) (hA : ∀ n, A n → B n) : Der ng L B n ↔ Der ng L A n := ⟨fun h => h.idem hB, fun h => h.mono (fun _ h => h) hA⟩
theorem conf_more (hB : ∀ n, B n → Der ng L A n) (hA : ∀ n, A n → B n) : Conf ng L B ↔ Conf ng L A := by
  unfold Conf
  simp only [der_more hB hA]
/-- a clause of which a literal is taken says nothing more -/
theorem der_units {c : List α} (hd : ∃ m ∈ c, Der ng L A m) (hno : ¬ Conf ng (c :: L) A) (h : Der ng (c :: L) A n) : Der ng L A n := by
  have hL : ∀ x ∈ L, x ∈ c :: L := fun x hx => List.mem_cons_of_mem _ hx
  induction h with
  | base h => exact .base h
  | @unit d n hdc hn hm ih =>
    rcases List.mem_cons.1 hdc with e | hd2
    · obtain ⟨m, hmc, hmd⟩ := hd
      rw [e] at hn ih
      by_cases hmn : m = n
      · rw [← hmn]; exact hmd
      · exact absurd (.inl ⟨m, hmd.mono hL (fun _ h => h), (ih m hmc hmn).mono hL (fun _ h => h)⟩) hno
    · exact .unit hd2 hn ih
/-- truths that make all clauses true, and no literal of the other's: what is taken is true -/
theorem der_true {tr : α → Prop} (hng : ∀ n, tr (ng n) → ¬ tr n) (hL : ∀ c ∈ L, ∃ m ∈ c, tr m) (hA : ∀ n, A n → tr n) (h : Der ng L A n) : tr n := by
  refine h.least ⟨hA, fun c hc n hn h => ?_⟩
  obtain ⟨m, hm, ht⟩ := hL c hc
  by_cases e : m = n
  · rw [← e]; exact ht
  · exact absurd ht (hng m (h m hm e))
theorem conf_true {tr : α → Prop} (hng : ∀ n, tr (ng n) → ¬ tr n) (hL : ∀ c ∈ L, ∃ m ∈ c, tr m) (hA : ∀ n, A n → tr n) : ¬ Conf ng L A := by
  rintro (⟨n, ha, hb⟩ | ⟨c, hc, h⟩)
  · exact hng n (der_true hng hL hA hb) (der_true hng hL hA ha)
  · obtain ⟨m, hm, ht⟩ := hL c hc
    exact hng m (der_true hng hL hA (h m hm)) ht
end
/-! literals by other names -/
section
variable {α β : Type} {ng : α → α} {ng' : β → β} {L : List (List α)} {A : α → Prop} {P : α → Prop} {f : α → β}
/-- literals by other names: f tells those of P apart, P has all that is spoken of -/
structure Named (ng : α → α) (ng' : β → β) (P : α → Prop) (f : α → β) : Prop where
  inj : ∀ a b, P a → P b → f a = f b → a = b
  com : ∀ a, P a → f (ng a) = ng' (f a)
  cl : ∀ a, P a → P (ng a)
def img (f : α → β) (A : α → Prop) : β → Prop := fun x => ∃ n, A n ∧ x = f n
theorem der_img (hf : Named ng ng' P f) (hL : ∀ c ∈ L, ∀ n ∈ c, P n) (hA : ∀ n, A n → P n) {n : α} (h : Der ng L A n) : P n ∧ Der ng' (L.map (·.map f)) (img f A) (f n) := by
  induction h with
  | base h => exact ⟨hA _ h, .base ⟨_, h, rfl⟩⟩
  | @unit c n hc hn hm ih =>
    refine ⟨hL c hc n hn, .unit (c := c.map f) (List.mem_map.2 ⟨c, hc, rfl⟩) (List.mem_map.2 ⟨n, hn, rfl⟩) fun x hx hne => ?_⟩
    obtain ⟨m, hmc, rfl⟩ := List.mem_map.1 hx
    have h := (ih m hmc (fun e => hne (by rw [e]))).2
    rw [hf.com m (hL c hc m hmc)] at h
    exact h
theorem img_der (hf : Named ng ng' P f) (hL : ∀ c ∈ L, ∀ n ∈ c, P n) (hA : ∀ n, A n → P n) {x : β} (h : Der ng' (L.map (·.map f)) (img f A) x) : ∃ n, x = f n ∧ P n ∧ Der ng L A n := by
  induction h with
  | base h =>
    obtain ⟨n, hn, rfl⟩ := h
    exact ⟨n, rfl, hA n hn, .base hn⟩
  | @unit d x hd hx hm ih =>
    obtain ⟨c, hc, rfl⟩ := List.mem_map.1 hd
    obtain ⟨n, hn, rfl⟩ := List.mem_map.1 hx
    refine ⟨n, rfl, hL c hc n hn, .unit hc hn fun m hmc hne => ?_⟩
    obtain ⟨k, hk, pk, hkd⟩ := ih (f m) (List.mem_map.2 ⟨m, hmc, rfl⟩) (fun e => hne (hf.inj _ _ (hL c hc m hmc) (hL c hc n hn) e))
    rw [← hf.com m (hL c hc m hmc)] at hk
    have e := hf.inj _ _ (hf.cl m (hL c hc m hmc)) pk hk
    rw [e]
    exact hkd
theorem conf_img (hf : Named ng ng' P f) (hL : ∀ c ∈ L, ∀ n ∈ c, P n) (hA : ∀ n, A n → P n) : Conf ng' (L.map (·.map f)) (img f A) ↔ Conf ng L A := by
  constructor
  · rintro (⟨x, h1, h2⟩ | ⟨d, hd, h⟩)
    · obtain ⟨n, rfl, pn, hn⟩ := img_der hf hL hA h1
      obtain ⟨k, hk, pk, hkd⟩ := img_der hf hL hA h2
      rw [← hf.com n pn] at hk
      have e := hf.inj _ _ (hf.cl n pn) pk hk
      rw [← e] at hkd
      exact .inl ⟨n, hn, hkd⟩
    · obtain ⟨c, hc, rfl⟩ := List.mem_map.1 hd
      refine .inr ⟨c, hc, fun m hm => ?_⟩
      obtain ⟨k, hk, pk, hkd⟩ := img_der hf hL hA (h (f m) (List.mem_map.2 ⟨m, hm, rfl⟩))
      rw [← hf.com m (hL c hc m hm)] at hk
      have e := hf.inj _ _ (hf.cl m (hL c hc m hm)) pk hk
      rw [e]
      exact hkd
  · rintro (⟨n, h1, h2⟩ | ⟨c, hc, h⟩)
    · have a := der_img hf hL hA h1
      have b := (der_img hf hL hA h2).2
      rw [hf.com n a.1] at b
      exact .inl ⟨f n, a.2, b⟩
    · refine .inr ⟨c.map f, List.mem_map.2 ⟨c, hc, rfl⟩, fun x hx => ?_⟩
      obtain ⟨m, hm, rfl⟩ := List.mem_map.1 hx
      have b := (der_img hf hL hA (h m hm)).2
      rw [hf.com m (hL c hc m hm)] at b
      exact b
end
/-! clauses of numbers, as the document has them: 0 is none -/
def nz (c : List Int) : List Int := c.filter (· != 0)
/-- what is taken first: the other ones of a clause's literals -/
def Neg (c : List Int) : Int → Prop := fun n => ∃ m ∈ nz c, n = -m
/-- does a clause follow by units? -/
def Fol (l : List (List Int)) (c : List Int) : Prop := Conf (fun n : Int => -n) (l.map nz) (Neg c)
theorem Fol.mono {l m : List (List Int)} {c d : List Int} (hl : ∀ x ∈ l, x ∈ m) (hc : ∀ n ∈ c, n ∈ d) (h : Fol l c) : Fol m d := by
  refine Conf.mono (fun x hx => ?_) (fun n hn => ?_) h
  · obtain ⟨y, hy, rfl⟩ := List.mem_map.1 hx
    exact List.mem_map.2 ⟨y, hl y hy, rfl⟩
  · obtain ⟨k, hk, rfl⟩ := hn
    rw [nz, List.mem_filter] at hk
    exact ⟨k, by rw [nz, List.mem_filter]; exact ⟨hc k hk.1, hk.2⟩, rfl⟩
theorem fol_mem {l : List (List Int)} {c : List Int} (h : c ∈ l) : Fol l c := .inr ⟨nz c, List.mem_map.2 ⟨c, h, rfl⟩, fun m hm => .base ⟨m, hm, rfl⟩⟩
theorem fol_both {l : List (List Int)} {c : List Int} {n : Int} (h0 : n ≠ 0) (h1 : n ∈ c) (h2 : -n ∈ c) : Fol l c := by
  refine .inl ⟨n, .base ⟨-n, ?_, by omega⟩, .base ⟨n, ?_, rfl⟩⟩
  · rw [nz, List.mem_filter]; exact ⟨h2, by simpa using h0⟩
  · rw [nz, List.mem_filter]; exact ⟨h1, by simpa using h0⟩
/-- truths that make all clauses true make true what follows -/
theorem fol_true {l : List (List Int)} {c : List Int} {tr : Int → Bool} (ht : ∀ n, n ≠ 0 → tr (-n) = !tr n) (h0 : tr 0 = false) (hl : ∀ x ∈ l, ∃ m ∈ x, tr m = true) (h : Fol l c) : ∃ m ∈ c, tr m = true := by
  by_cases hc : ∃ m ∈ c, tr m = true
  · exact hc
  · exfalso
    refine conf_true (ng := fun n : Int => -n) (tr := fun n => n ≠ 0 ∧ tr n = true) ?_ ?_ ?_ h
    · rintro n ⟨hn, h1⟩ ⟨hn2, h2⟩
      rw [ht n hn2, h2] at h1
      cases h1
    · intro x hx
      obtain ⟨y, hy, rfl⟩ := List.mem_map.1 hx
      obtain ⟨m, hm, htm⟩ := hl y hy
      have hm0 : m ≠ 0 := fun e => by rw [e, h0] at htm; cases htm
      exact ⟨m, by rw [nz, List.mem_filter]; exact ⟨hm, by simpa using hm0⟩, hm0, htm⟩
    · rintro n ⟨m, hm, rfl⟩
      rw [nz, List.mem_filter] at hm
      have hm0 : m ≠ 0 := by simpa using hm.2
      refine ⟨by omega, ?_⟩
      rw [ht m hm0]
      cases htm : tr m with
      | false => rfl
      | true => exact absurd ⟨m, hm.1, htm⟩ hc
end Go.Proofs.Ytmiiclhhenepiaa
