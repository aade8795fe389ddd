/-
  Layer 25, plain: the answer's Apply as lists, and that it is apply. Own work.
-/
import Derived.Test.YtoibanffaebllaaKRow25c
namespace Go.Proofs.Ytoibanffaebllaa
set_option linter.unusedVariables false
set_option linter.unusedSimpArgs false
open Go.RowKit

/-- an edit done to pins, of whatever order -/
def stepP (pins : List Pn) (e : Ed) : List Pn := pins.filter (fun p => !(sameK p.key e.key)) ++ (if e.has = true then [e.new] else [])
/-- does an edit fit the pins? -/
def fitR (A : List Pn) (e : Ed) : Bool := ((findP e.key A).isSome == e.had) && sameP ((findP e.key A).getD zP) e.old
theorem findP_app (q : K4) (l m : List Pn) : findP q (l ++ m) = (findP q l).or (findP q m) := by
  unfold findP; rw [List.find?_append]
theorem findP_filter_same (q : K4) (l : List Pn) : findP q (l.filter fun p => !(sameK p.key q)) = none := by
  unfold findP
  rw [List.find?_eq_none]
  intro p hp
  have := (List.mem_filter.1 hp).2
  simpa using this
theorem findP_filter_other {q k : K4} (h : k ≠ q) : ∀ l : List Pn, findP q (l.filter fun p => !(sameK p.key k)) = findP q l
  | [] => rfl
  | p :: l => by
    have ih := findP_filter_other h l
    unfold findP at ih ⊢
    rw [List.filter_cons]
    by_cases hk : sameK p.key k = true
    · have hq : sameK p.key q = false := by
        rw [Bool.eq_false_iff]
        exact fun e => h ((sameK_eq.1 hk).symm.trans (sameK_eq.1 e))
      rw [if_neg (by rw [hk]; simp), List.find?_cons, hq]
      exact ih
    · rw [if_pos (by simpa using hk), List.find?_cons, List.find?_cons, ih]
open Classical in
theorem findP_step (q : K4) (pins : List Pn) (e : Ed) (he : mayE e = true) : findP q (stepP pins e) = if e.key = q then (if e.has = true then some e.new else none) else findP q pins := by
  unfold stepP
  rw [findP_app]
  have hn := (mayE_ok he).2.2.2.2.1
  by_cases hq : e.key = q
  · subst hq
    rw [if_pos rfl, findP_filter_same]
    by_cases hh : e.has = true
    · rw [if_pos hh, if_pos hh]
      unfold findP
      rw [List.find?_cons, sameK_eq.2 (hn hh)]; rfl
    · rw [if_neg hh, if_neg hh]; rfl
  · rw [if_neg hq, findP_filter_other hq]
    by_cases hh : e.has = true
    · rw [if_pos hh]
      have : findP q [e.new] = none := by
        unfold findP
        rw [List.find?_cons, show sameK e.new.key q = false from by rw [Bool.eq_false_iff]; exact fun h => hq ((hn hh).symm.trans (sameK_eq.1 h))]; rfl
      rw [this]; cases findP q pins <;> rfl
    · rw [if_neg hh]
      have : findP q [] = none := rfl
      rw [this]; cases findP q pins <;> rfl
theorem findP_steps (q : K4) : ∀ (E : List Ed) (pins : List Pn), Ris Ed.key E → (∀ e ∈ E, mayE e = true) → findP q (E.foldl stepP pins) = match lk Ed.key q E with | some e => if e.has = true then some e.new else none | none => findP q pins
  | [], pins, _, _ => rfl
  | e :: E, pins, hr, hm => by
    have hr' := List.pairwise_cons.1 hr
    rw [List.foldl_cons, findP_steps q E (stepP pins e) hr'.2 (fun x hx => hm x (List.mem_cons_of_mem _ hx)), lk_cons, findP_step q pins e (hm e (by simp))]
    by_cases hq : e.key = q
    · rw [if_pos hq, if_pos (show kcmp e.key q = 0 from by rw [hq, kcmp_self])]
      rw [ris_lt_none (l := E) (by rw [← hq]; exact hr'.1)]
    · rw [if_neg hq, if_neg (fun h => hq (kcmp_zero h))]
theorem fits_fitR {A : List Pn} {E : List Ed} (hA : PinsOk A) (hE : mayEds E = true) : fits A E = E.all (fitR A) := by
  have hm := mayEds_ok hE
  rw [Bool.eq_iff_iff, List.all_eq_true]
  constructor
  · intro h e he
    have := allB_at A E hA.1 hm.1 rfl h e.key
    rw [lk_mem hm.1 he] at this
    have hz := (mayE_ok (hm.2 e he)).2.2.2.1
    unfold fitR
    rw [findP_lk]
    cases hp : lk Pn.key e.key A with
    | none =>
      rw [hp] at this
      simp only [fitB, Bool.not_eq_true'] at this
      rw [hz this, this]
      simp [sameP_self]
    | some p =>
      rw [hp] at this
      simp only [fitB, Bool.and_eq_true] at this
      rw [this.1]
      simp only [Option.isSome_some, Option.getD_some]
      rw [sameP_comm, this.2]; rfl
  · intro h
    refine allB_of A E hA.1 hm.1 (fun q => ?_) rfl
    cases he : lk Ed.key q E with
    | none => cases lk Pn.key q A <;> rfl
    | some e =>
      have hke := lk_some he
      have := h e hke.2
      unfold fitR at this
      rw [findP_lk, hke.1] at this
      cases hp : lk Pn.key q A with
      | none =>
        rw [hp] at this
        simp only [Option.isSome_none, Bool.and_eq_true, beq_iff_eq] at this
        simp only [fitB]
        rw [← this.1]; rfl
      | some p =>
        rw [hp] at this
        simp only [Option.isSome_some, Option.getD_some, Bool.and_eq_true, beq_iff_eq] at this
        simp only [fitB]
        rw [← this.1, sameP_comm, this.2]; rfl
/-- the rising row of what is found -/
def outR (keys : List K4) (pins : List Pn) : List Pn := keys.map fun k => (findP k pins).getD zP
theorem outR_apply {A : List Pn} {E : List Ed} {keys : List K4} (hA : PinsOk A) (hE : mayEds E = true) (hk : IsKeys (E.foldl stepP A) keys) : outR keys (E.foldl stepP A) = apply A E := by
  have hm := mayEds_ok hE
  have hin : ∀ q, q ∈ keys ↔ (findP q (E.foldl stepP A)).isSome = true := fun q => by
    rw [hk.2.1 q]
    unfold findP
    rw [List.find?_isSome]
    constructor
    · rintro ⟨p, hp, e⟩; exact ⟨p, hp, sameK_eq.2 e⟩
    · rintro ⟨p, hp, e⟩; exact ⟨p, hp, sameK_eq.1 e⟩
  have hkey : ∀ q ∈ keys, ((findP q (E.foldl stepP A)).getD zP).key = q := fun q hq => by
    obtain ⟨p, hp⟩ := Option.isSome_iff_exists.1 ((hin q).1 hq)
    rw [hp]
    unfold findP at hp
    have h2 : sameK p.key q = true := by simpa using List.find?_some (p := fun p : Pn => sameK p.key q) hp
    exact sameK_eq.1 h2
  have hris : Ris Pn.key (outR keys (E.foldl stepP A)) := by
    unfold Ris outR
    rw [List.pairwise_map]
    refine List.Pairwise.imp_of_mem ?_ hk.1
    intro a b ha hb hab
    rw [hkey a ha, hkey b hb]; exact hab
  refine ris_ext hris (apply_ris hA hm.1 (newk_of hE)) fun q => ?_
  rw [apply_lk hA hm.1 (newk_of hE)]
  have h1 : lk Pn.key q (outR keys (E.foldl stepP A)) = findP q (E.foldl stepP A) := by
    cases hf : findP q (E.foldl stepP A) with
    | none =>
      refine lk_none fun p hp hz => ?_
      unfold outR at hp
      obtain ⟨k, hkm, rfl⟩ := List.mem_map.1 hp
      have := kcmp_zero hz
      rw [hkey k hkm] at this
      subst this
      have := (hin k).1 hkm
      rw [hf] at this; cases this
    | some p =>
      have hqm := (hin q).2 (by rw [hf]; rfl)
      have hmem : (findP q (E.foldl stepP A)).getD zP ∈ outR keys (E.foldl stepP A) := List.mem_map.2 ⟨q, hqm, rfl⟩
      have := lk_mem hris hmem
      rw [hkey q hqm, hf] at this
      exact this
  rw [h1, findP_steps q E A hm.1 hm.2, findP_lk]
  cases he : lk Ed.key q E with
  | none => rw [two_none]
  | some e =>
    rw [two_apG]
    have hke := lk_some he
    by_cases hh : e.has = true
    · simp only
      rw [if_pos hh, if_pos hh, rekey_eq ((mayE_ok (hm.2 e hke.2)).2.2.2.2.1 hh)]
    · simp only
      rw [if_neg hh, if_neg hh]
end Go.Proofs.Ytoibanffaebllaa
