/-
  Layer 2: what every token of a text is, and that a token that is printed is read as itself, on lists. Own work.
-/
import Derived.Test.YtldgjiohigiioaaBack2
namespace Go.Proofs.Ytldgjiohigiioaa
set_option linter.unusedVariables false
set_option linter.unusedSimpArgs false
open Go.RowKit

/-- a token as it is cut; b: nothing is ahead of it -/
def Gd (b : Bool) (k : Int) (n : List UInt8) (ats : List At2) (t : List UInt8) : Prop :=
  (k = 4 ∧ n = [] ∧ ats = [] ∧ ∀ c ∈ t, tx c = true) ∨ (k = 5 ∧ n = [] ∧ ats = [] ∧ BT noteB t) ∨
  (k = 6 ∧ n = [] ∧ ats = [] ∧ BT headB t ∧ (∀ c, (t ++ [63]).head? = some c → (bl c || c == 63) = true) ∧ b = true) ∨ (k = 3 ∧ isN n ∧ ats = [] ∧ t = []) ∨
  ((k = 1 ∨ k = 2) ∧ isN n ∧ (∀ p ∈ ats, okA p) ∧ (ats.map (·.1)).Nodup ∧ t = [])
theorem pref_len {p r : List UInt8} (h : p.isPrefixOf r = true) : p.length + (r.drop p.length).length = r.length := by
  have := (List.isPrefixOf_iff_prefix.1 h).length_le
  rw [List.length_drop]; omega
theorem piece_gd {o : Nat} {r s : List UInt8} {x : Tk} (h : pieceM o r = .ok x s) : Gd (o == 0) x.k x.n x.ats x.t ∧ (prT x.k x.n x.ats x.t).length + 6 * s.length ≤ 6 * r.length := by
  cases r with
  | nil => simp [pieceM] at h
  | cons c r1 =>
    rw [pieceM] at h
    split at h
    · next hc =>
      obtain ⟨t, r3, h1, h⟩ := bind_ok h
      cases h
      have hv := let_inv _ _ _ _ _ h1 (by simp)
      refine ⟨.inl ⟨rfl, rfl, rfl, hv.1⟩, ?_⟩
      have h2 := hv.2
      have h3 := escS_len false t
      show (escS false t).length + 6 * _ ≤ _
      simp only [List.length_nil] at h2
      omega
    · next hc =>
      have hc : c = 60 := by simpa using hc
      subst hc
      split at h
      · next hn =>
        obtain ⟨t, r3, h1, h⟩ := bind_ok h
        cases h
        obtain ⟨t', g1, g2, g3, _⟩ := bet_inv (by decide) _ _ h1
        obtain rfl : t = t' := by simpa using g1
        refine ⟨.inr (.inl ⟨rfl, rfl, rfl, g3⟩), ?_⟩
        have hp : 4 + ((60 :: r1).drop 4).length = (60 :: r1).length := pref_len hn
        have hq := congrArg List.length g2
        show (60 :: 33 :: 45 :: 45 :: (t ++ [45, 45, 62])).length + 6 * _ ≤ _
        simp only [noteB, List.length_append, List.length_cons, List.length_nil, Nat.zero_add] at hp hq ⊢
        omega
      · split at h
        · next hn =>
          obtain ⟨t, r3, h1, h⟩ := bind_ok h
          cases h
          obtain ⟨t', g1, g2, g3, g4⟩ := bet_inv (by decide) _ _ h1
          obtain rfl : t = t' := by simpa using g1
          refine ⟨.inl ⟨rfl, rfl, rfl, g4⟩, ?_⟩
          have hp : 9 + ((60 :: r1).drop 9).length = (60 :: r1).length := pref_len hn
          have hq := congrArg List.length g2
          have h3 := escS_len false t
          show (escS false t).length + 6 * _ ≤ _
          simp only [cdB, List.length_append, List.length_cons, List.length_nil, Nat.zero_add] at hp hq ⊢
          omega
        · split at h
          · next hn =>
            obtain ⟨t, r3, h1, h⟩ := bind_ok h
            cases h
            obtain ⟨t', g1, g2, g3, g4⟩ := bet_inv (by decide) _ _ h1
            obtain rfl : t = t' := by simpa using g1
            simp only [headM, Bool.and_eq_true] at hn
            obtain ⟨⟨n1, n2⟩, n3⟩ := hn
            refine ⟨.inr (.inr (.inl ⟨rfl, rfl, rfl, g3, fun c hc => ?_, n1⟩)), ?_⟩
            · have e5 : (60 :: r1)[5]? = ((60 :: r1).drop 5)[0]? := by rw [List.getElem?_drop]
              rw [e5, g2] at n3
              have e6 : (t ++ (headB ++ s))[0]? = some c := by
                cases t with
                | nil => simpa [headB] using hc
                | cons d t => simpa using hc
              rw [e6] at n3
              exact n3
            · have hp : 5 + ((60 :: r1).drop 5).length = (60 :: r1).length := pref_len n2
              have hq := congrArg List.length g2
              show (60 :: 63 :: 120 :: 109 :: 108 :: (t ++ [63, 62])).length + 6 * _ ≤ _
              simp only [headB, List.length_append, List.length_cons, List.length_nil, Nat.zero_add] at hp hq ⊢
              omega
          · split at h
            · next h47 =>
              obtain ⟨n, r3, h1, h⟩ := bind_ok h
              cases h
              unfold closeM at h1
              obtain ⟨n', r4, h2, h1⟩ := bind_ok h1
              have hn := name_inv h2
              obtain ⟨u, r5, h3, h1⟩ := bind_ok h1
              have hm := must_inv h3
              cases h1
              refine ⟨.inr (.inr (.inr (.inl ⟨rfl, hn.1, rfl, rfl⟩))), ?_⟩
              have l1 := blanks_len r4
              have l2 := hn.2
              have l3 : 1 ≤ r1.length := by cases r1 with
                | nil => simp at h47
                | cons d r1 => simp
              show (60 :: 47 :: (n ++ [62])).length + 6 * _ ≤ _
              simp only [List.length_append, List.length_cons, List.length_nil, List.length_drop] at l2 ⊢
              omega
            · obtain ⟨x, r3, h1, h⟩ := bind_ok h
              cases h
              rw [openM_eq] at h1
              obtain ⟨n, r4, h2, h1⟩ := bind_ok h1
              have hn := name_inv h2
              obtain ⟨ats, r5, h3, h1⟩ := bind_ok h1
              have ha := attrs_inv _ _ _ h3 (by simp) (by simp)
              have l3 := ha.2.2
              have l2 := hn.2
              unfold endM at h1
              split at h1
              · simp at h1
              · next d r6 =>
                split at h1
                · obtain ⟨u, r7, h4, h1⟩ := bind_ok h1
                  have hm := must_inv h4
                  cases h1
                  refine ⟨.inr (.inr (.inr (.inr ⟨.inr rfl, hn.1, ha.1, ha.2.1, rfl⟩))), ?_⟩
                  show (tagP n ats ++ [47, 62]).length + 6 * _ ≤ _
                  simp only [tagP, List.length_append, List.length_cons, List.length_nil, List.flatMap_nil] at l3 ⊢
                  omega
                · obtain ⟨u, r7, h4, h1⟩ := bind_ok h1
                  have hm := must_inv h4
                  cases h1
                  refine ⟨.inr (.inr (.inr (.inr ⟨.inl rfl, hn.1, ha.1, ha.2.1, rfl⟩))), ?_⟩
                  show (tagP n ats ++ [62]).length + 6 * _ ≤ _
                  simp only [tagP, List.length_append, List.length_cons, List.length_nil, List.flatMap_nil] at l3 hm ⊢
                  omega
/-- every token is good, and all together are at most six times as long -/
theorem chain_gd {l : List UInt8} : ∀ (ts : List Tk) {r : List UInt8}, Chain l r ts → r.length ≤ l.length →
    (prM (ts.map (Tk.mem l))).length ≤ 6 * r.length ∧ ∀ i x, ts[i]? = some x → Gd (decide (r.length = l.length) && i == 0) x.k x.n x.ats x.t
  | [], r, _, _ => ⟨by simp [prM], fun i x h => by simp at h⟩
  | t :: ts, r, ⟨c, r1, r2, hr, hp, hc⟩, hl => by
    have hg := piece_gd hp
    have h2 : r2.length < r.length := by
      subst hr
      have := piece_len hp
      simp; omega
    have ih := chain_gd ts hc (by omega)
    refine ⟨?_, fun i x hx => ?_⟩
    · have e : prM ((t :: ts).map (Tk.mem l)) = prT t.k t.n t.ats t.t ++ prM (ts.map (Tk.mem l)) := by simp [prM, Tk.mem]
      rw [e, List.length_append]
      have := ih.1
      have := hg.2
      omega
    · cases i with
      | zero =>
        simp only [List.getElem?_cons_zero, Option.some.injEq] at hx
        subst hx
        have e : (decide (r.length = l.length) && (0 : Nat) == 0) = (l.length - r.length == 0) := by
          by_cases h : r.length = l.length
          · simp [h]
          · simp [h]; omega
        rw [e]; exact hg.1
      | succ i =>
        have := ih.2 i x (by simpa using hx)
        have e : (decide (r2.length = l.length) && i == 0) = false := by simp; omega
        rw [e] at this
        simpa using this
/-! reading back -/
theorem let_esc2 (s R : List UInt8) (f : Nat) (hf : s.length < f) (h : ∀ c ∈ s, tx c = true) (hR : R = [] ∨ ∃ R', R = 60 :: R') : letM 60 true f [] (escS false s ++ R) = .ok s R := by
  have := let_map (stop := 60) (opn := true) (e := esc1 false) (by decide) s f [] R (by omega) (fun c hc => okE_esc (h c hc))
  unfold escS
  rw [this]
  obtain ⟨g, hg⟩ : ∃ g, f - s.length = g + 1 := ⟨f - s.length - 1, by omega⟩
  rw [hg]
  rcases hR with rfl | ⟨R', rfl⟩
  · rw [letM]; simp
  · rw [let_stop]; simp
theorem tagP_eq (n : List UInt8) (ats : List At2) : tagP n ats = tagT n (ats.map fun p => (false, p)) := by
  unfold tagP tagT
  rw [List.flatMap_map]
  rfl
theorem open_back {n : List UInt8} {bs : List (Bool × At2)} (hn : isN n) (hok : ∀ p ∈ bs, okA p.2) (hnd : (bs.map (fun p => p.2.1)).Nodup) (tail R : List UInt8) (k : Int) (htk : (tail = [62] ∧ k = 1) ∨ (tail = [47, 62] ∧ k = 2)) (o : Nat) :
    pieceM o (tagT n bs ++ tail ++ R) = .ok ⟨k, n, bs.map (·.2), [], o⟩ R := by
  have hth : ∀ c, (tail ++ R).head? = some c → isName (c.toNat : Int) = false := by
    rcases htk with ⟨rfl, _⟩ | ⟨rfl, _⟩ <;> (intro c hc; simp at hc; subst hc; decide)
  obtain ⟨f1, f2, f3, f4⟩ := first_60 hn (bs.flatMap pcA ++ (tail ++ R))
  have f5 : headM (o == 0) (60 :: (n ++ (bs.flatMap pcA ++ (tail ++ R)))) = false := by
    cases h : (o == 0)
    · rfl
    · exact f3
  have e0 : tagT n bs ++ tail ++ R = 60 :: (n ++ (bs.flatMap pcA ++ (tail ++ R))) := by simp [tagT]
  rw [e0, pieceM, if_neg (by decide), if_neg (by rw [f1]; decide), if_neg (by rw [f2]; decide), if_neg (by rw [f5]; decide), if_neg f4, openM, nameM_app hn (head_pc hth)]
  show (((attrsM ((bs.flatMap pcA ++ (tail ++ R)).length + 1) [] (bs.flatMap pcA ++ (tail ++ R))).bind _).bind _ : Rs Tk) = _
  have hbl : bs.length ≤ (bs.flatMap pcA).length := by
    have : ∀ bs : List (Bool × At2), bs.length ≤ (bs.flatMap pcA).length := by
      intro bs
      induction bs with
      | nil => simp
      | cons p bs ih =>
        obtain ⟨b, n, v⟩ := p
        cases b <;> (simp only [List.flatMap_cons, List.length_append, List.length_cons, pcA] at ih ⊢; omega)
    exact this bs
  rw [attrs_read bs _ [] (by rw [List.length_append]; omega) hok (by simp) hnd, List.nil_append]
  obtain ⟨g, hg⟩ : ∃ g, (bs.flatMap pcA ++ (tail ++ R)).length + 1 - bs.length = g + 1 := ⟨(bs.flatMap pcA ++ (tail ++ R)).length - bs.length, by rw [List.length_append]; omega⟩
  rw [hg]
  rcases htk with ⟨rfl, rfl⟩ | ⟨rfl, rfl⟩
  · have : attrsM (g + 1) (bs.map (·.2)) ([62] ++ R) = .ok (bs.map (·.2)) ([62] ++ R) := by
      show attrsM (g + 1) _ (62 :: R) = .ok _ (62 :: R)
      rw [attrsM, if_pos (blanks_no (c := 62) (r := R) (by decide))]
    rw [this]
    rfl
  · have : attrsM (g + 1) (bs.map (·.2)) ([47, 62] ++ R) = .ok (bs.map (·.2)) ([47, 62] ++ R) := by
      show attrsM (g + 1) _ (47 :: 62 :: R) = .ok _ (47 :: 62 :: R)
      rw [attrsM, if_pos (blanks_no (c := 47) (r := 62 :: R) (by decide))]
    rw [this]
    rfl
theorem head_of {t R : List UInt8} (h : ∀ c, (t ++ [63]).head? = some c → (bl c || c == 63) = true) : headM true (60 :: 63 :: 120 :: 109 :: 108 :: (t ++ (63 :: R))) = true := by
  unfold headM
  have e6 : ∃ c, (60 :: 63 :: 120 :: 109 :: 108 :: (t ++ (63 :: R)))[5]? = some c ∧ (bl c || c == 63) = true := by
    cases t with
    | nil => exact ⟨63, rfl, by decide⟩
    | cons d t => exact ⟨d, rfl, h d (by simp)⟩
  obtain ⟨c, hc, hb⟩ := e6
  rw [hc]
  simp [headF, List.isPrefixOf, hb]
theorem piece_back {b : Bool} {k : Int} {n t R : List UInt8} {ats : List At2} {o : Nat} (h : Gd b k n ats t) (ht : k = 4 → t ≠ []) (hR : k = 4 → R = [] ∨ ∃ R', R = 60 :: R') (hb : b = (o == 0)) :
    pieceM o (prT k n ats t ++ R) = .ok ⟨k, n, ats, t, o⟩ R := by
  rcases h with ⟨rfl, rfl, rfl, h⟩ | ⟨rfl, rfl, rfl, h⟩ | ⟨rfl, rfl, rfl, h, h2, rfl⟩ | ⟨rfl, h, rfl, rfl⟩ | ⟨hk, h, h2, h3, rfl⟩
  · show pieceM o (escS false t ++ R) = _
    cases t with
    | nil => exact absurd rfl (ht rfl)
    | cons c t =>
      cases hE : escS false (c :: t) with
      | nil => exact absurd (esc_nil.1 hE) (by simp)
      | cons d r =>
        have hd := esc_first hE
        have hl := let_esc2 (c :: t) R ((d :: (r ++ R)).length + 1) (by
          have h1 := esc_ge false (c :: t)
          rw [hE] at h1
          simp only [List.length_cons, List.length_append] at h1 ⊢
          omega) h (hR rfl)
        rw [hE] at hl
        rw [List.cons_append, pieceM, if_pos hd]
        rw [List.cons_append] at hl
        rw [hl]
        rfl
  · have e : prT 5 [] [] t ++ R = 60 :: 33 :: 45 :: 45 :: (t ++ (noteB ++ R)) := by simp [prT, noteB]
    rw [e, pieceM, if_neg (by decide), if_pos (by simp [noteF, List.isPrefixOf])]
    show (betM noteB [] (t ++ (noteB ++ R))).bind _ = _
    rw [h]
    rfl
  · have e : prT 6 [] [] t ++ R = 60 :: 63 :: 120 :: 109 :: 108 :: (t ++ (headB ++ R)) := by simp [prT, headB]
    rw [e, pieceM, if_neg (by decide), if_neg (by simp [noteF, List.isPrefixOf]), if_neg (by simp [cdF, List.isPrefixOf]), if_pos (by rw [← hb]; exact head_of h2)]
    show (betM headB [] (t ++ (headB ++ R))).bind _ = _
    rw [h]
    rfl
  · have e : prT 3 n [] [] ++ R = 60 :: 47 :: (n ++ (62 :: R)) := by simp [prT]
    have hh : headM (o == 0) (60 :: 47 :: (n ++ (62 :: R))) = false := by simp [headM, headF, List.isPrefixOf]
    rw [e, pieceM, if_neg (by decide), if_neg (by simp [noteF, List.isPrefixOf]), if_neg (by simp [cdF, List.isPrefixOf]), if_neg (by rw [hh]; decide), if_pos (show (47 :: (n ++ 62 :: R)).head? = some 47 from rfl)]
    show (closeM (n ++ (62 :: R))).bind _ = _
    rw [closeM, nameM_app h (by intro c hc; simp at hc; subst hc; decide)]
    have hm : mustM 62 (blanksM (62 :: R)) = .ok () R := by rw [blanks_no (by decide), mustM, if_pos rfl]
    show ((mustM 62 (blanksM (62 :: R))).bind fun _ r2 => Rs.ok n r2).bind (fun n r2 => Rs.ok (⟨3, n, [], [], o⟩ : Tk) r2) = _
    rw [hm]
    rfl
  · have hm : (ats.map fun p => (false, p)).map (·.2) = ats := by rw [List.map_map]; exact List.map_id ats
    have hm2 : (ats.map fun p => (false, p)).map (fun p => p.2.1) = ats.map (·.1) := by rw [List.map_map]; rfl
    have key := fun tail k htk => open_back (bs := ats.map fun p => (false, p)) h (fun p hp => by
      obtain ⟨q, hq, rfl⟩ := List.mem_map.1 hp
      exact h2 q hq) (by rw [hm2]; exact h3) tail R k htk o
    simp only [hm, ← tagP_eq] at key
    rcases hk with rfl | rfl
    · exact key [62] 1 (.inl ⟨rfl, rfl⟩)
    · exact key [47, 62] 2 (.inr ⟨rfl, rfl⟩)
/-- tokens that may be read back; b: nothing is ahead of them -/
def Nm (b : Bool) (M : List Tm) : Prop := ∀ (i : Nat) x, M[i]? = some x → Gd (b && i == 0) x.k x.n x.ats x.t ∧ (x.k = 4 → x.t ≠ []) ∧ ∀ y, M[i + 1]? = some y → ¬ (x.k = 4 ∧ y.k = 4)
theorem Nm.tail {b : Bool} {x : Tm} {M : List Tm} (h : Nm b (x :: M)) : Nm false M := fun i y hy => by
  have := h (i + 1) y (by simpa using hy)
  exact ⟨by simpa using this.1, this.2.1, fun z hz => this.2.2 z (by simpa using hz)⟩
theorem pr_60 {b : Bool} {k : Int} {n t : List UInt8} {ats : List At2} (h : Gd b k n ats t) (h4 : k ≠ 4) : ∃ r, prT k n ats t = 60 :: r := by
  rcases h with ⟨rfl, _⟩ | ⟨rfl, _⟩ | ⟨rfl, _⟩ | ⟨rfl, _⟩ | ⟨rfl | rfl, _⟩
  · exact absurd rfl h4
  all_goals exact ⟨_, rfl⟩
theorem pr_ne {b : Bool} {k : Int} {n t : List UInt8} {ats : List At2} (h : Gd b k n ats t) (h4 : k = 4 → t ≠ []) : prT k n ats t ≠ [] := by
  by_cases hk : k = 4
  · subst hk
    exact fun he => h4 rfl (esc_nil.1 he)
  · obtain ⟨r, hr⟩ := pr_60 h hk
    rw [hr]; simp
theorem go_back {lf : List UInt8} : ∀ (M : List Tm) (b : Bool) (f : Nat) (acc : List Tk), Nm b M → (prM M).length < f → (prM M).length ≤ lf.length → b = (lf.length - (prM M).length == 0) →
    ∃ ts, goM lf f acc (prM M) = .ok (acc ++ ts) [] ∧ ts.length = M.length ∧ ∀ (i : Nat) x y, ts[i]? = some x → M[i]? = some y → x.k = y.k ∧ x.n = y.n ∧ x.ats = y.ats ∧ x.t = y.t
  | [], b, f, acc, _, hf, _, _ => by
    obtain ⟨g, rfl⟩ : ∃ g, f = g + 1 := ⟨f - 1, by simp [prM] at hf; omega⟩
    refine ⟨[], ?_, rfl, fun i x y h => by simp at h⟩
    rw [show prM [] = [] from rfl, goM, if_pos rfl, List.append_nil]
  | x :: M, b, f, acc, hN, hf, hlf, hb => by
    have e : prM (x :: M) = prT x.k x.n x.ats x.t ++ prM M := rfl
    obtain ⟨h1, h2, h3⟩ := hN 0 x rfl
    have h1 : Gd b x.k x.n x.ats x.t := by simpa using h1
    have hne := pr_ne h1 h2
    have hlen : 1 ≤ (prT x.k x.n x.ats x.t).length := List.length_pos_iff.2 hne
    obtain ⟨g, rfl⟩ : ∃ g, f = g + 1 := ⟨f - 1, by omega⟩
    have hR : x.k = 4 → prM M = [] ∨ ∃ R', prM M = 60 :: R' := fun hk => by
      cases M with
      | nil => exact .inl rfl
      | cons y M =>
        obtain ⟨r, hr⟩ := pr_60 (hN 1 y rfl).1 (fun hy => h3 y rfl ⟨hk, hy⟩)
        exact .inr ⟨r ++ prM M, by show prT y.k y.n y.ats y.t ++ prM M = _; rw [hr]; rfl⟩
    have hp := piece_back (R := prM M) h1 h2 hR hb
    have eL : (prM (x :: M)).length = (prT x.k x.n x.ats x.t).length + (prM M).length := by rw [e, List.length_append]
    obtain ⟨ts, i1, i2, i3⟩ := go_back (lf := lf) M false g (acc ++ [⟨x.k, x.n, x.ats, x.t, lf.length - (prM (x :: M)).length⟩]) hN.tail (by omega) (by omega) (by
      have : lf.length - (prM M).length ≠ 0 := by omega
      simpa using this)
    refine ⟨⟨x.k, x.n, x.ats, x.t, lf.length - (prM (x :: M)).length⟩ :: ts, ?_, by simp [i2], fun i u v hu hv => ?_⟩
    · rw [goM, if_neg (by rw [e]; simp [hne])]
      rw [← e] at hp
      rw [hp]
      show goM lf g _ (prM M) = _
      rw [i1]; simp
    · cases i with
      | zero => simp at hu hv; subst hu; subst hv; exact ⟨rfl, rfl, rfl, rfl⟩
      | succ i => exact i3 i u v (by simpa using hu) (by simpa using hv)
theorem all_back {M : List Tm} (hN : Nm true M) (hl : (prM M).length ≤ 65536) :
    ∃ ts, allM (prM M) = .ok ts [] ∧ ts.length = M.length ∧ ∀ (i : Nat) x y, ts[i]? = some x → M[i]? = some y → x.k = y.k ∧ x.n = y.n ∧ x.ats = y.ats ∧ x.t = y.t := by
  obtain ⟨ts, h1, h2, h3⟩ := go_back (lf := prM M) M true ((prM M).length + 1) [] hN (Nat.lt_succ_self _) (Nat.le_refl _) (by simp)
  refine ⟨ts, ?_, h2, h3⟩
  unfold allM
  rw [if_neg (by omega), h1]
  simp
end Go.Proofs.Ytldgjiohigiioaa
