/-
  Layer 10: three projects may be merged from either end; on lists. Own work.
-/
import Derived.Test.YtjkmmmmbdfcnbaaLaw10
namespace Go.Proofs.Ytjkmmmmbdfcnbaa
set_option linter.unusedVariables false
set_option linter.unusedSimpArgs false
open Go.RowKit

/-- putL by recursion -/
def putR : List Pr → Pr → List Pr
  | [], x => [x]
  | y :: l, x => if eqS y.n x.n = true then ⟨y.n, x.v⟩ :: l else y :: putR l x
theorem putL_R : ∀ (l : List Pr) (x : Pr), putL l x = putR l x
  | [], x => rfl
  | y :: l, x => by
    have ih := putL_R l x
    unfold putL putR
    rw [List.findIdx?_cons]
    by_cases h : eqS y.n x.n = true
    · rw [if_pos h, if_pos h]
      rfl
    · rw [if_neg h, if_neg h, ← ih]
      unfold putL
      cases hf : l.findIdx? (fun q => eqS q.n x.n) with
      | none => rfl
      | some i => simp
theorem putR_yes {y x : Pr} {l : List Pr} (h : eqS y.n x.n = true) : putR (y :: l) x = ⟨y.n, x.v⟩ :: l := by rw [putR, if_pos h]
theorem putR_no {y x : Pr} {l : List Pr} (h : ¬ eqS y.n x.n = true) : putR (y :: l) x = y :: putR l x := by rw [putR, if_neg h]
theorem putR_nil (x : Pr) : putR [] x = [x] := rfl
theorem eqS_symm {x y : ByteArray} (h : eqS x y = true) : eqS y x = true := by rw [eqS_iff] at h ⊢; exact h.symm
theorem putR_same {x y : Pr} (h : y.n = x.n) : ∀ l : List Pr, putR (putR l y) x = putR l x
  | [] => by
    rw [putR_nil, putR_nil, putR_yes (eqS_iff.2 h)]
    cases x; simp only at h; subst h; rfl
  | z :: l => by
    by_cases hz : eqS z.n y.n = true
    · have hz2 : eqS z.n x.n = true := by rw [← h]; exact hz
      rw [putR_yes hz, putR_yes hz2, putR_yes (y := ⟨z.n, y.v⟩) hz2]
    · have hz2 : ¬ eqS z.n x.n = true := by rw [← h]; exact hz
      rw [putR_no hz, putR_no hz2, putR_no hz2, putR_same h l]
theorem putR_comm {x z : Pr} (h : ¬ z.n = x.n) : ∀ l : List Pr, (∃ y ∈ l, y.n = x.n) → putR (putR l z) x = putR (putR l x) z
  | [], hx => by obtain ⟨y, hy, _⟩ := hx; simp at hy
  | y :: l, hx => by
    by_cases hyx : y.n = x.n
    · have h1 : eqS y.n x.n = true := eqS_iff.2 hyx
      have h2 : ¬ eqS y.n z.n = true := fun e => h ((eqS_iff.1 e).symm.trans hyx)
      have a : putR (y :: l) z = y :: putR l z := by rw [putR, if_neg h2]
      have b : putR (y :: l) x = ⟨y.n, x.v⟩ :: l := by rw [putR, if_pos h1]
      rw [a, b, putR, if_pos h1, putR, if_neg h2]
    · have h1 : ¬ eqS y.n x.n = true := fun e => hyx (eqS_iff.1 e)
      have hl : ∃ y ∈ l, y.n = x.n := by
        obtain ⟨q, hq, e⟩ := hx
        rcases List.mem_cons.1 hq with rfl | hq
        · exact absurd e hyx
        · exact ⟨q, hq, e⟩
      have b : putR (y :: l) x = y :: putR l x := by rw [putR, if_neg h1]
      by_cases hyz : eqS y.n z.n = true
      · have a : putR (y :: l) z = ⟨y.n, z.v⟩ :: l := by rw [putR, if_pos hyz]
        rw [a, b, putR, if_neg h1, putR, if_pos hyz]
      · have a : putR (y :: l) z = y :: putR l z := by rw [putR, if_neg hyz]
        rw [a, b, putR, if_neg h1, putR, if_neg hyz, putR_comm h l hl]
theorem putR_has (l : List Pr) (x : Pr) : ∃ y ∈ putR l x, y.n = x.n := by
  induction l with
  | nil => exact ⟨x, by simp [putR], rfl⟩
  | cons z l ih =>
    unfold putR
    by_cases hz : eqS z.n x.n = true
    · rw [if_pos hz]
      exact ⟨⟨z.n, x.v⟩, by simp, eqS_iff.1 hz⟩
    · rw [if_neg hz]
      obtain ⟨y, hy, e⟩ := ih
      exact ⟨y, List.mem_cons_of_mem _ hy, e⟩
theorem putR_keeps {l : List Pr} {x : Pr} {n : ByteArray} (h : ∃ y ∈ l, y.n = n) : ∃ y ∈ putR l x, y.n = n := by
  induction l with
  | nil => obtain ⟨y, hy, _⟩ := h; simp at hy
  | cons z l ih =>
    obtain ⟨y, hy, e⟩ := h
    unfold putR
    by_cases hz : eqS z.n x.n = true
    · rw [if_pos hz]
      rcases List.mem_cons.1 hy with rfl | hy
      · exact ⟨_, List.mem_cons_self .., e⟩
      · exact ⟨y, List.mem_cons_of_mem _ hy, e⟩
    · rw [if_neg hz]
      rcases List.mem_cons.1 hy with rfl | hy
      · exact ⟨y, List.mem_cons_self .., e⟩
      · obtain ⟨y', hy', e'⟩ := ih ⟨y, hy, e⟩
        exact ⟨y', List.mem_cons_of_mem _ hy', e'⟩
theorem putR_names {l : List Pr} {x : Pr} {P : ByteArray → Prop} (h : ∀ y ∈ l, P y.n) (hx : P x.n) : ∀ y ∈ putR l x, P y.n := by
  induction l with
  | nil => intro y hy; simp [putR] at hy; subst hy; exact hx
  | cons z l ih =>
    intro y hy
    unfold putR at hy
    by_cases hz : eqS z.n x.n = true
    · rw [if_pos hz] at hy
      rcases List.mem_cons.1 hy with rfl | hy
      · exact h z (List.mem_cons_self ..)
      · exact h y (List.mem_cons_of_mem _ hy)
    · rw [if_neg hz] at hy
      rcases List.mem_cons.1 hy with rfl | hy
      · exact h _ (List.mem_cons_self ..)
      · exact ih (fun y hy => h y (List.mem_cons_of_mem _ hy)) y hy
/-- names that differ -/
def Dist (l : List Pr) : Prop := l.Pairwise fun p q => ¬ p.n = q.n
theorem putR_dist {l : List Pr} {x : Pr} (h : Dist l) : Dist (putR l x) := by
  induction l with
  | nil => simp [putR, Dist]
  | cons z l ih =>
    unfold putR
    have hz0 := List.pairwise_cons.1 h
    by_cases hz : eqS z.n x.n = true
    · rw [if_pos hz]
      exact List.pairwise_cons.2 ⟨hz0.1, hz0.2⟩
    · rw [if_neg hz]
      refine List.pairwise_cons.2 ⟨fun y hy => ?_, ih hz0.2⟩
      exact putR_names (P := fun n => ¬ z.n = n) hz0.1 (fun e => hz (eqS_iff.2 e)) y hy
theorem over_cons (l m : List Pr) (x : Pr) : over l (x :: m) = over (putR l x) m := by simp [over, putL_R]
theorem over_dist {l : List Pr} (h : Dist l) : ∀ m : List Pr, Dist (over l m) := by
  intro m
  induction m generalizing l with
  | nil => exact h
  | cons x m ih => rw [over_cons]; exact ih (putR_dist h)
/-- a put goes past a row of other names -/
theorem over_past {x : Pr} : ∀ (m l : List Pr), (∀ y ∈ m, ¬ y.n = x.n) → (∃ y ∈ l, y.n = x.n) → putR (over l m) x = over (putR l x) m
  | [], l, _, _ => rfl
  | z :: m, l, hm, hl => by
    rw [over_cons, over_cons, over_past m (putR l z) (fun y hy => hm y (List.mem_cons_of_mem _ hy)) (putR_keeps hl), putR_comm (hm z (List.mem_cons_self ..)) l hl]
theorem over_putR (x : Pr) : ∀ (m c : List Pr), Dist m → over c (putR m x) = putR (over c m) x
  | [], c, _ => by show over c [x] = putR c x; rw [over_cons]; rfl
  | z :: m, c, h => by
    have h0 := List.pairwise_cons.1 h
    by_cases hz : eqS z.n x.n = true
    · have e := eqS_iff.1 hz
      rw [putR_yes hz, over_cons, over_cons]
      have h1 := over_past (x := x) m (putR c z) (fun y hy e' => h0.1 y hy (e.trans e'.symm)) (by obtain ⟨y, hy, e'⟩ := putR_has c z; exact ⟨y, hy, e'.trans e⟩)
      rw [h1, putR_same e]
      have : (⟨z.n, x.v⟩ : Pr) = x := by cases x; simp only at e; subst e; rfl
      rw [this]
    · rw [putR_no hz, over_cons, over_cons]
      exact over_putR x m (putR c z) h0.2
theorem over_assoc (c : List Pr) : ∀ (a b : List Pr), Dist b → over (over c b) a = over c (over b a)
  | [], b, _ => rfl
  | x :: a, b, hb => by rw [over_cons, over_cons, ← over_putR x b c hb, over_assoc c a (putR b x) (putR_dist hb)]
theorem hasK_append (l m : List Dp) (k : Ky) : hasK (l ++ m) k = (hasK l k || hasK m k) := by unfold hasK; rw [List.any_append]
theorem hasK_under (l m : List Dp) (k : Ky) : hasK (underL l m) k = (hasK l k || hasK m k) := by
  unfold underL
  rw [hasK_append]
  cases h : hasK l k with
  | true => rfl
  | false =>
    rw [Bool.false_or, Bool.false_or]
    unfold hasK
    rw [List.any_filter]
    congr 1
    funext d
    cases hd : sameKy (keyD d) k with
    | false => simp
    | true =>
      have := sameKy_iff.1 hd
      have h2 : hasK l (keyD d) = false := by rw [this]; exact h
      unfold hasK at h2
      simp [h2]
theorem under_assoc (a b c : List Dp) : underL a (underL b c) = underL (underL a b) c := by
  have e : underL (underL a b) c = underL a b ++ c.filter (fun d => !(hasK a (keyD d) || hasK b (keyD d))) := by
    show underL a b ++ c.filter (fun d => !(hasK (underL a b) (keyD d))) = _
    congr 2
    funext d
    rw [hasK_under]
  rw [e]
  show a ++ (b ++ c.filter (fun d => !(hasK b (keyD d)))).filter (fun d => !(hasK a (keyD d))) = (a ++ b.filter (fun d => !(hasK a (keyD d)))) ++ c.filter (fun d => !(hasK a (keyD d) || hasK b (keyD d)))
  rw [List.filter_append, List.filter_filter, List.append_assoc]
  congr 3
  funext d
  cases hasK a (keyD d) <;> cases hasK b (keyD d) <;> rfl
theorem gOf_merge (a b : Pm) : gOf (mergeM a b) = gOf a := by
  show (if a.hp && nilB (gOf a) then a.pg else gOf a) = gOf a
  cases h : a.hp && nilB (gOf a) with
  | false => rfl
  | true =>
    rw [Bool.and_eq_true] at h
    show a.pg = gOf a
    unfold gOf at h ⊢
    cases h2 : a.hp && nilB a.g with
    | true => rfl
    | false =>
      rw [h2] at h
      have h3 := h.2
      rw [h.1, Bool.true_and] at h2
      simp only [if_neg (Bool.false_ne_true)] at h3
      exact absurd (h2.symm.trans h3) (by decide)
theorem vOf_merge (a b : Pm) : vOf (mergeM a b) = vOf a := by
  show (if a.hp && nilB (vOf a) then a.pv else vOf a) = vOf a
  cases h : a.hp && nilB (vOf a) with
  | false => rfl
  | true =>
    rw [Bool.and_eq_true] at h
    show a.pv = vOf a
    unfold vOf at h ⊢
    cases h2 : a.hp && nilB a.v with
    | true => rfl
    | false =>
      rw [h2] at h
      have h3 := h.2
      rw [h.1, Bool.true_and] at h2
      simp only [if_neg (Bool.false_ne_true)] at h3
      exact absurd (h2.symm.trans h3) (by decide)
theorem merge_assoc (a b c : Pm) (hb : Dist b.ps) : mergeM a (mergeM b c) = mergeM (mergeM a b) c := by
  have e1 : mergeM (mergeM a b) c = { a with g := gOf a, v := vOf a, ps := over c.ps (over b.ps a.ps), ms := underL (underL a.ms b.ms) c.ms, ds := underL (underL a.ds b.ds) c.ds } := by
    have h1 := gOf_merge a b
    have h2 := vOf_merge a b
    unfold mergeM at h1 h2 ⊢
    simp only [h1, h2]
  rw [e1]
  unfold mergeM
  simp only [over_assoc c.ps a.ps b.ps hb, under_assoc]
theorem over_names {l m : List Pr} {P : ByteArray → Prop} (hl : ∀ y ∈ l, P y.n) (hm : ∀ y ∈ m, P y.n) : ∀ y ∈ over l m, P y.n := by
  induction m generalizing l with
  | nil => exact hl
  | cons x m ih =>
    rw [over_cons]
    exact ih (putR_names hl (hm x (List.mem_cons_self ..))) (fun y hy => hm y (List.mem_cons_of_mem _ hy))
theorem merge_ok {a b : Pm} (ha : OkP a) (hb : OkP b) (h1 : a.ps.length + b.ps.length ≤ 5000) (h2 : a.ms.length + b.ms.length ≤ 5000) (h3 : a.ds.length + b.ds.length ≤ 5000) : OkP (mergeM a b) :=
  ⟨by have := over_len a.ps b.ps; show (over b.ps a.ps).length ≤ 5000; omega, by have := underL_len a.ms b.ms; show (underL a.ms b.ms).length ≤ 5000; omega, by have := underL_len a.ds b.ds; show (underL a.ds b.ds).length ≤ 5000; omega,
    over_names (P := fun n => n.size ≤ maxLen) hb.n ha.n, under_ex ha.km hb.km, under_ex ha.kd hb.kd⟩
/-- each name stands first where it stands: the names differ -/
theorem dist_of {l : List Pr} (h : ∀ (i : Nat) p, l[i]? = some p → atI l p.n = i) : Dist l := by
  unfold Dist
  rw [List.pairwise_iff_getElem]
  intro i j hi hj hij e
  have h1 := h i l[i] (List.getElem?_eq_getElem hi)
  have h2 := h j l[j] (List.getElem?_eq_getElem hj)
  rw [e, h2] at h1
  omega
end Go.Proofs.Ytjkmmmmbdfcnbaa
