/-
  Layer 2: what the tokens of a text are, on lists: their letters, names, attributes; how long they are printed. Own work.
-/
import Derived.Test.YtldgjiohigiioaaStay2c
import Derived.Test.YtldgjiohigiioaaPrint2
namespace Go.Proofs.Ytldgjiohigiioaa
set_option linter.unusedVariables false
set_option linter.unusedSimpArgs false
open Go.RowKit

/-- t, with its end behind it, is read as t -/
def BT (back t : List UInt8) : Prop := ∀ acc R, betM back acc (t ++ (back ++ R)) = .ok (acc ++ t) R
theorem bet_front {back acc R : List UInt8} (h : back ≠ []) : betM back acc (back ++ R) = .ok acc R := by
  cases back with
  | nil => exact absurd rfl h
  | cons b back =>
    have hp : (b :: back).isPrefixOf (b :: (back ++ R)) = true := List.isPrefixOf_iff_prefix.2 ⟨R, rfl⟩
    rw [List.cons_append, betM, if_pos hp]
    simp
theorem bet_inv {back : List UInt8} (hb : back ≠ []) : ∀ (r acc : List UInt8) {v s : List UInt8}, betM back acc r = .ok v s → ∃ t, v = acc ++ t ∧ r = t ++ (back ++ s) ∧ BT back t ∧ ∀ c ∈ t, tx c = true
  | [], acc, v, s, h => by
    unfold betM at h
    split at h
    · next hp =>
      have := (List.isPrefixOf_iff_prefix.1 hp).length_le
      exact absurd (List.eq_nil_of_length_eq_zero (by simpa using this)) hb
    · simp at h
  | c :: r, acc, v, s, h => by
    unfold betM at h
    split at h
    · next hp =>
      cases h
      obtain ⟨t, ht⟩ := List.isPrefixOf_iff_prefix.1 hp
      refine ⟨[], by simp, ?_, fun acc R => by simpa using bet_front hb, by simp⟩
      rw [← ht]; simp
    · next hp =>
      split at h
      · next htx =>
        obtain ⟨t, h1, h2, h3, h4⟩ := bet_inv hb r _ h
        refine ⟨c :: t, by rw [h1]; simp, by rw [h2]; rfl, fun acc' R => ?_, fun d hd => ?_⟩
        · have hno : ¬ back.isPrefixOf (c :: (t ++ (back ++ R))) = true := by
            intro hq
            apply hp
            rw [h2]
            have hl : back.length ≤ (c :: (t ++ back)).length := by simp; omega
            have e0 : ∀ z, (c :: (t ++ (back ++ z))).take back.length = (c :: (t ++ back)).take back.length := fun z => by
              rw [show c :: (t ++ (back ++ z)) = (c :: (t ++ back)) ++ z by simp, List.take_append_of_le_length hl]
            rw [pre_take ((e0 s).trans (e0 R).symm) (Nat.le_refl _)]
            exact hq
          show betM back acc' (c :: (t ++ (back ++ R))) = _
          rw [bet_step hno, if_pos htx, h3]
          simp
        · rcases List.mem_cons.1 hd with hd | hd
          · rw [hd]; exact htx
          · exact h4 d hd
      · simp at h
theorem tx_of {n : Int} (h1 : 32 ≤ n) (h2 : n ≤ 255) : tx (UInt8.ofNat n.toNat) = true := by
  unfold tx isText
  have : (UInt8.ofNat n.toNat).toNat = n.toNat := by
    rw [UInt8.toNat_ofNat']
    exact Nat.mod_eq_of_lt (by omega)
  rw [this]
  simp; omega
theorem tx_nums {xs : List Int} (h : ∀ n ∈ xs, 32 ≤ n ∧ n ≤ 255) : ∀ c ∈ (strOfNums xs).data.toList, tx c = true := by
  intro c hc
  unfold strOfNums at hc
  simp only [List.mem_map] at hc
  obtain ⟨n, hn, rfl⟩ := hc
  exact tx_of (h n hn).1 (h n hn).2
theorem tx_letB (n : Int) : ∀ c ∈ (letB n).data.toList, tx c = true := by
  cases ho : letOk n with
  | false => rw [letB_no ho]; simp
  | true =>
    have hr : (n = 9 ∨ n = 10 ∨ n = 13) ∨ 32 ≤ n ∧ n ≤ 1114111 := by simp [letOk] at ho; omega
    by_cases h128 : n < 128
    · rw [← enc1 ho h128]
      rcases hr with h | ⟨h1, _⟩
      · rcases h with rfl | rfl | rfl <;> decide
      · exact tx_nums (by simp; omega)
    · by_cases h2048 : n < 2048
      · rw [← enc2 ho (by omega) h2048]; exact tx_nums (by simp; omega)
      · by_cases h65536 : n < 65536
        · rw [← enc3 ho (by omega) h65536]; exact tx_nums (by simp; omega)
        · rw [← enc4 ho (by omega)]; exact tx_nums (by simp; omega)
theorem fin_ok {b : Int} {l : List UInt8} {f j n : Nat} {x : ByteArray} (h : finS b l f j = (x, n, 0)) : (∃ k, x = letB k) ∧ f + 2 ≤ n := by
  unfold finS at h
  split at h
  · simp at h
  · split at h
    · simp at h
    · next hj =>
      split at h
      · simp only [Prod.mk.injEq, and_true] at h
        refine ⟨⟨_, h.1.symm⟩, ?_⟩
        have : j ≠ 0 := fun e => hj (.inl e)
        omega
      · simp at h
theorem refS_ok {l : List UInt8} {x : ByteArray} {n : Nat} (h : refS l = (x, n, 0)) : (∀ c ∈ x.data.toList, tx c = true) ∧ 4 ≤ n := by
  unfold refS at h
  split at h
  · obtain ⟨⟨k, rfl⟩, h2⟩ := fin_ok h
    exact ⟨tx_letB k, by omega⟩
  · split at h
    · obtain ⟨⟨k, rfl⟩, h2⟩ := fin_ok h
      exact ⟨tx_letB k, by omega⟩
    · split at h
      · next w hw =>
        simp only [Prod.mk.injEq, and_true] at h
        obtain ⟨rfl, rfl⟩ := h
        have h2 := List.mem_of_find?_eq_some hw
        simp only [words, List.mem_cons, List.not_mem_nil, or_false] at h2
        rcases h2 with rfl | rfl | rfl | rfl | rfl <;> exact ⟨by decide, by decide⟩
      · split at h <;> simp at h
theorem let_inv (stop : UInt8) (opn : Bool) : ∀ (f : Nat) (acc r : List UInt8) {v s : List UInt8}, letM stop opn f acc r = .ok v s → (∀ c ∈ acc, tx c = true) → (∀ c ∈ v, tx c = true) ∧ v.length + s.length ≤ acc.length + r.length
  | 0, acc, r, v, s, h, ha => by rw [letM] at h; cases h; exact ⟨ha, Nat.le_refl _⟩
  | f + 1, acc, [], v, s, h, ha => by
    rw [letM] at h
    split at h
    · cases h; exact ⟨ha, Nat.le_refl _⟩
    · simp at h
  | f + 1, acc, c :: r, v, s, h, ha => by
    by_cases hc : c = stop
    · rw [letM, if_pos hc] at h; cases h; exact ⟨ha, Nat.le_refl _⟩
    · by_cases h38 : c = 38
      · obtain ⟨⟨x, n, y⟩, hxy⟩ : ∃ z, refS (c :: r) = z := ⟨_, rfl⟩
        rw [let_ref hc h38 hxy] at h
        split at h
        · next hy =>
          subst hy
          have h1 := refS_ok hxy
          have h2 := refS_small hxy
          have ih := let_inv stop opn f _ _ h (fun d hd => by
            rcases List.mem_append.1 hd with hd | hd
            · exact ha d hd
            · exact h1.1 d hd)
          refine ⟨ih.1, ?_⟩
          have h3 : x.data.toList.length = x.size := by simp
          have h4 := ih.2
          simp only [List.length_append, List.length_drop, List.length_cons] at h4 h2 ⊢
          omega
        · simp at h
      · rw [letM, if_neg hc, if_neg h38] at h
        split at h
        · simp at h
        · next h60 =>
          have ht : tx c = true := by
            simp only [Bool.or_eq_true, not_or, Bool.not_eq_true'] at h60
            simpa using h60.2
          have ih := let_inv stop opn f _ _ h (fun d hd => by
            rcases List.mem_append.1 hd with hd | hd
            · exact ha d hd
            · simp at hd; rw [hd]; exact ht)
          refine ⟨ih.1, ?_⟩
          have h4 := ih.2
          simp only [List.length_append, List.length_cons, List.length_nil] at h4 ⊢
          omega
theorem name_inv {e : Int} {r n s : List UInt8} (h : nameM e r = .ok n s) : isN n ∧ n.length + s.length = r.length := by
  unfold nameM at h
  split at h
  · simp at h
  · split at h
    · simp at h
    · next h0 =>
      simp only [Rs.ok.injEq] at h
      obtain ⟨rfl, rfl⟩ := h
      have hle := nameL_le r
      obtain ⟨i1, i2, i3⟩ := name_is (l := r) rfl (show 1 ≤ nameL r by omega)
      have hlen : (r.take (nameL r)).length = nameL r := by rw [List.length_take]; omega
      refine ⟨⟨fun he => by rw [he] at hlen; simp at hlen; omega, ?_⟩, by rw [hlen, List.length_drop]; omega⟩
      rw [hlen]
      refine name_one (nameL_is _) (.inr ⟨by omega, by rw [size_str]; omega, ?_, fun i h1 h2 => ?_, .inl (by rw [size_str, hlen])⟩)
      · obtain ⟨a, ha⟩ : ∃ a, r[0]? = some a := ⟨_, List.getElem?_eq_getElem (by omega)⟩
        have : (r.take (nameL r))[0]? = some a := by rw [List.getElem?_take, if_pos (by omega)]; exact ha
        rw [bt_str this]; exact i1 a ha
      · obtain ⟨a, ha⟩ : ∃ a, r[i]? = some a := ⟨_, List.getElem?_eq_getElem (by omega)⟩
        have : (r.take (nameL r))[i]? = some a := by rw [List.getElem?_take, if_pos (by omega)]; exact ha
        rw [bt_str this]; exact i2 i a h1 h2 ha
theorem must_inv {c : UInt8} {r s : List UInt8} {u : Unit} (h : mustM c r = .ok u s) : s.length + 1 = r.length := by
  cases r with
  | nil => simp [mustM] at h
  | cons d r =>
    rw [mustM] at h
    split at h
    · cases h; rfl
    · simp at h
theorem attr_inv {ats : List At2} {r s : List UInt8} {p : At2} (h : attrM ats r = .ok p s) : okA p ∧ (∀ a ∈ ats, a.1 ≠ p.1) ∧ p.1.length + p.2.length + 3 + s.length ≤ r.length := by
  unfold attrM at h
  obtain ⟨n, r1, h1, h⟩ := bind_ok h
  have hn := name_inv h1
  split at h
  · simp at h
  · next hd =>
    obtain ⟨u, r3, h3, h⟩ := bind_ok h
    have hm := must_inv h3
    have l1 := blanks_len r1
    have l2 := blanks_len r3
    split at h
    · simp at h
    · next q r4 hb =>
      rw [hb] at l2
      split at h
      · obtain ⟨v, r5, h5, h⟩ := bind_ok h
        have hv := let_inv _ _ _ _ _ h5 (by simp)
        obtain ⟨r6, hr6⟩ := let_ok _ h5 (Nat.lt_succ_self _)
        cases h
        refine ⟨⟨hn.1, hv.1⟩, fun a ha he => ?_, ?_⟩
        · apply hd
          exact List.any_eq_true.2 ⟨a, ha, by simpa using he⟩
        · have h6 := hv.2
          rw [hr6] at h6 ⊢
          simp only [List.length_cons, List.drop_succ_cons, List.drop_zero, List.length_nil] at *
          omega
      · simp at h
theorem atP_sz (p : At2) : (atP p).length ≤ 4 + p.1.length + 6 * p.2.length := by
  have := escS_len true p.2
  simp only [atP, List.length_cons, List.length_append, List.length_nil]
  omega
theorem attrs_inv : ∀ (f : Nat) (ats : List At2) (r : List UInt8) {a : List At2} {s : List UInt8}, attrsM f ats r = .ok a s → (∀ p ∈ ats, okA p) → (ats.map (·.1)).Nodup →
    (∀ p ∈ a, okA p) ∧ (a.map (·.1)).Nodup ∧ (a.flatMap atP).length + 6 * s.length ≤ (ats.flatMap atP).length + 6 * r.length
  | 0, ats, r, a, s, h, h1, h2 => by rw [attrsM] at h; cases h; exact ⟨h1, h2, Nat.le_refl _⟩
  | f + 1, ats, r, a, s, h, h1, h2 => by
    rw [attrsM] at h
    have hb := blanks_len r
    split at h
    · cases h; exact ⟨h1, h2, Nat.le_refl _⟩
    · next hne =>
      have hlt : (blanksM r).length < r.length := by
        rcases Nat.lt_or_ge (blanksM r).length r.length with h9 | h9
        · exact h9
        · exact absurd ((blanks_left r).eq_of_length (by omega)) hne
      split at h
      · simp at h
      · next c r1 heq =>
        rw [heq] at hlt
        split at h
        · cases h; exact ⟨h1, h2, by simp only [List.length_cons] at *; omega⟩
        · obtain ⟨p, r3, h3, h⟩ := bind_ok h
          obtain ⟨i1, i2, i3⟩ := attr_inv h3
          have ih := attrs_inv f _ _ h (fun q hq => by
            rcases List.mem_append.1 hq with hq | hq
            · exact h1 q hq
            · rw [List.mem_singleton] at hq; rw [hq]; exact i1) (by
            rw [List.map_append, List.nodup_append]
            refine ⟨h2, by simp, fun x hx y hy => ?_⟩
            obtain ⟨q, hq, rfl⟩ := List.mem_map.1 hx
            simp at hy
            rw [hy]
            exact i2 q hq)
          refine ⟨ih.1, ih.2.1, ?_⟩
          have h5 := ih.2.2
          have h6 := atP_sz p
          simp only [List.flatMap_append, List.flatMap_cons, List.flatMap_nil, List.length_append, List.append_nil, List.length_cons] at *
          omega
end Go.Proofs.Ytldgjiohigiioaa
