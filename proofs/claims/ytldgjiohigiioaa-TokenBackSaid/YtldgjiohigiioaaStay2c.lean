/-
  Layer 2: an error stays whatever stands behind its place, on lists: a whole text. Own work.
-/
import Derived.Test.YtldgjiohigiioaaStay2b
namespace Go.Proofs.Ytldgjiohigiioaa
set_option linter.unusedVariables false
set_option linter.unusedSimpArgs false
open Go.RowKit

theorem allM_left (l : List UInt8) : (allM l).left <:+ l := by
  unfold allM
  split
  · exact List.suffix_refl _
  · exact go_left _ _ _ _
/-- behind an attribute's = -/
def quoteM (n r2 : List UInt8) : Rs At2 :=
  match blanksM r2 with
  | [] => .bad 13 []
  | q :: r3 => if q = 34 || q = 39 then (letM q false (r3.length + 1) [] r3).bind fun v r4 => .ok (n, v) (r4.drop 1) else .bad 10 (q :: r3)
theorem attrM_q (ats : List At2) (r : List UInt8) : attrM ats r = (nameM 10 r).bind fun n r1 => if ats.any (fun a => a.1 == n) then .bad 15 r else (mustM 61 (blanksM r1)).bind fun _ r2 => quoteM n r2 := rfl
theorem quote_left (n r : List UInt8) : (quoteM n r).left <:+ blanksM r := by
  unfold quoteM
  split
  · exact List.nil_suffix
  · next q r3 heq =>
    split
    · exact (bind_left (let_left _ _ _ _ _) fun v r4 _ => show (Rs.ok (n, v) (r4.drop 1) : Rs At2).left <:+ r4 from List.drop_suffix 1 r4).trans (by rw [heq]; exact List.suffix_cons q r3)
    · show q :: r3 <:+ blanksM r
      rw [heq]; exact List.suffix_refl _
section
variable {α β : Type} {c : UInt8} {x y r r' : List UInt8} {M M' : Rs α}
theorem p2_blanks (h : P2 c x y r r') (hs : c :: x <:+ blanksM r) : P2 c x y (blanksM r) (blanksM r') := by
  obtain ⟨p, rfl, rfl⟩ := h
  exact st_blanks p hs
theorem st_quote (n : List UInt8) (h : P2 c x y r r') : St c x y (quoteM n r) (quoteM n r') := by
  by_cases hs : c :: x <:+ blanksM r
  · obtain ⟨p, hp, hp'⟩ := p2_blanks h hs
    unfold quoteM
    rw [hp, hp']
    cases p with
    | nil =>
      show St c x y (ite _ _ _ : Rs At2) (ite _ _ _ : Rs At2)
      by_cases hq : (decide (c = 34) || decide (c = 39)) = true
      · rw [if_pos hq]
        exact St.vac (z := x) (bind_left (let_left _ _ _ _ _) fun v r4 _ => show (Rs.ok (n, v) (r4.drop 1) : Rs At2).left <:+ r4 from List.drop_suffix 1 r4) no_suf
      · rw [if_neg hq, if_neg hq]
        exact St.bad
    | cons q p =>
      show St c x y (ite _ _ _ : Rs At2) (ite _ _ _ : Rs At2)
      by_cases hq : (decide (q = 34) || decide (q = 39)) = true
      · rw [if_pos hq, if_pos hq]
        refine St.bind (st_let q false _ _ p _ (Nat.lt_succ_self _) (Nat.lt_succ_self _)) (fun v s s' hv hss => ?_) (fun v s => List.drop_suffix 1 s)
        obtain ⟨r5, hr5⟩ := let_ok _ hv (Nat.lt_succ_self _)
        by_cases hin : c :: x <:+ s.drop 1
        · exact St.ok (P2.drop hss hin).1
        · exact St.vac (List.suffix_refl _) hin
      · rw [if_neg hq]
        exact St.other (fun he => by have := congrArg List.length he; simp at this; omega)
  · exact St.vac (quote_left n r) hs
/-- its name there is the same -/
def HN (c : UInt8) (x y : List UInt8) : Prop := ∀ n s, nameM 10 (c :: x) = .ok n s → ∃ s', nameM 10 (c :: y) = .ok n s'
theorem st_attr (hn : HN c x y) (ats : List At2) (h : P2 c x y r r') : St c x y (attrM ats r) (attrM ats r') := by
  rw [attrM_q, attrM_q]
  have hst := st_name 10 h
  cases hN : nameM 10 r with
  | bad e z =>
    refine ⟨fun a s hb => by simp [Rs.bind] at hb, fun e' he' hb => ?_⟩
    have hb2 : (Rs.bad e z : Rs At2) = .bad e' (c :: x) := hb
    cases hb2
    rw [hst.2 e he' hN]; rfl
  | ok n s =>
    show St c x y (ite _ _ _ : Rs At2) _
    by_cases hd : ats.any (fun a => a.1 == n) = true
    · rw [if_pos hd]
      refine ⟨fun a t hb => by simp at hb, fun e he hb => ?_⟩
      simp only [Rs.bad.injEq] at hb
      obtain ⟨rfl, hr⟩ := hb
      obtain ⟨p, hp, hp'⟩ := h
      have h0 : p = [] := by
        rw [hp] at hr
        have := congrArg List.length hr
        simp at this
        exact this
      subst h0
      have hp1 : r' = c :: y := hp'
      rw [hr] at hN
      obtain ⟨s', hs'⟩ := hn n s hN
      rw [hp1, hs']
      show (ite _ _ _ : Rs At2) = _
      rw [if_pos hd]
    · rw [if_neg hd]
      have hl : ((mustM 61 (blanksM s)).bind fun _ r2 => quoteM n r2).left <:+ blanksM s := bind_left (must_left 61 _) fun _ r2 _ => (quote_left n r2).trans (blanks_left r2)
      by_cases hs : c :: x <:+ blanksM s
      · obtain ⟨s', hs', hp⟩ := hst.1 n s hN (hs.trans (blanks_left s))
        rw [hs']
        show St c x y _ (ite _ _ _ : Rs At2)
        rw [if_neg hd]
        exact St.bind (st_must 61 (p2_blanks hp hs)) (fun _ t t' _ ht => st_quote n ht) (fun _ t => (quote_left n t).trans (blanks_left t))
      · exact St.vac hl hs
theorem st_attrs (hn : HN c x y) : ∀ (f : Nat) (ats : List At2) (p : List UInt8) (f' : Nat), (p ++ c :: x).length < f → (p ++ c :: y).length < f' → St c x y (attrsM f ats (p ++ c :: x)) (attrsM f' ats (p ++ c :: y))
  | 0, ats, p, f', h, _ => by omega
  | f + 1, ats, p, 0, _, h => by omega
  | f + 1, ats, p, f' + 1, h, h' => by
    by_cases hs : c :: x <:+ blanksM (p ++ c :: x)
    · obtain ⟨q, hq, hq'⟩ := st_blanks (y := y) p hs
      have hiff : (blanksM (p ++ c :: x) = p ++ c :: x) ↔ (blanksM (p ++ c :: y) = p ++ c :: y) := by
        rw [hq, hq']
        constructor <;> intro h <;> rw [List.append_cancel_right h]
      rw [attrsM, attrsM]
      by_cases hb : blanksM (p ++ c :: x) = p ++ c :: x
      · rw [if_pos hb, if_pos (hiff.1 hb)]
        exact St.ok ⟨p, rfl, rfl⟩
      · rw [if_neg hb, if_neg (fun h => hb (hiff.2 h))]
        have hlt := (blanks_left (p ++ c :: x)).length_le
        have hne : (q ++ c :: x).length < (p ++ c :: x).length := by
          rw [hq] at hb hlt
          have := blanks_left (p ++ c :: x)
          rw [hq] at this
          rcases Nat.lt_or_ge (q ++ c :: x).length (p ++ c :: x).length with h | h
          · exact h
          · exact absurd (this.eq_of_length (by omega)) hb
        rw [hq, hq']
        have go : ∀ (d : UInt8) (z z' : List UInt8), d :: z = q ++ c :: x → d :: z' = q ++ c :: y →
            St c x y (if (decide (d = 47) || decide (d = 62)) = true then Rs.ok ats (d :: z) else (attrM ats (d :: z)).bind fun a r2 => attrsM f (ats ++ [a]) r2) (if (decide (d = 47) || decide (d = 62)) = true then Rs.ok ats (d :: z') else (attrM ats (d :: z')).bind fun a r2 => attrsM f' (ats ++ [a]) r2) := by
          intro d z z' hz hz'
          by_cases hd : (decide (d = 47) || decide (d = 62)) = true
          · rw [if_pos hd, if_pos hd]
            exact St.ok ⟨q, hz, hz'⟩
          · rw [if_neg hd, if_neg hd]
            refine St.bind (st_attr hn ats ⟨q, hz, hz'⟩) (fun a s s' ha hss => ?_) (fun a s => attrs_left _ _ _)
            obtain ⟨p2, e1, e2⟩ := hss
            have hl1 := attr_len ha
            have e3 := congrArg List.length hz
            have e4 := congrArg List.length e1
            have hl2 : (p2 ++ c :: y).length < f' := by
              have e5 := congrArg List.length hz'
              simp only [List.length_append, List.length_cons] at *
              omega
            rw [e1, e2]
            exact st_attrs hn f _ p2 f' (by rw [← e1]; omega) hl2
        cases q with
        | nil => exact go c x y rfl rfl
        | cons d q => exact go d (q ++ c :: x) (q ++ c :: y) rfl rfl
    · have h1 : (attrsM (f + 1) ats (p ++ c :: x)).left <:+ blanksM (p ++ c :: x) := by
        rw [attrsM]
        split
        · next hb => rw [hb]; exact List.suffix_refl _
        · split
          · exact List.nil_suffix
          · next d z heq =>
            split
            · rw [heq]; exact List.suffix_refl _
            · rw [heq]
              exact bind_left (attr_left _ _) fun _ _ _ => attrs_left _ _ _
      exact St.vac h1 hs
theorem st_end (n : List UInt8) (ats : List At2) (h : P2 c x y r r') : St c x y (endM n ats r) (endM n ats r') := by
  obtain ⟨p, rfl, rfl⟩ := h
  have go : ∀ (d : UInt8) (z z' : List UInt8), d :: z = p ++ c :: x → d :: z' = p ++ c :: y → (d = 47 → p ≠ [] ∨ True) → St c x y (endM n ats (d :: z)) (endM n ats (d :: z')) := by
    intro d z z' hz hz' _
    unfold endM
    show St c x y (ite _ _ _ : Rs _) (ite _ _ _ : Rs _)
    by_cases hd : d = 47
    · rw [if_pos hd, if_pos hd]
      cases p with
      | nil =>
        simp only [List.nil_append, List.cons.injEq] at hz
        rw [hz.2]
        exact St.vac (z := x) (bind_left (must_left 62 _) fun _ _ _ => List.suffix_refl _) no_suf
      | cons e p =>
        simp only [List.cons_append, List.cons.injEq] at hz hz'
        exact St.bind (st_must 62 ⟨p, hz.2, hz'.2⟩) (fun _ s s' _ hss => St.ok hss) (fun _ _ => List.suffix_refl _)
    · rw [if_neg hd, if_neg hd]
      exact St.bind (st_must 62 ⟨p, hz, hz'⟩) (fun _ s s' _ hss => St.ok hss) (fun _ _ => List.suffix_refl _)
  cases p with
  | nil => exact go c x y rfl rfl (fun _ => .inr trivial)
  | cons d p => exact go d (p ++ c :: x) (p ++ c :: y) rfl rfl (fun _ => .inr trivial)
theorem st_open (hn : HN c x y) (h : P2 c x y r r') : St c x y (openM r) (openM r') := by
  rw [openM_eq, openM_eq]
  refine St.bind (st_name 11 h) (fun n s s' _ hss => ?_) (fun n s => bind_left (attrs_left _ _ _) fun _ _ _ => end_left _ _ _)
  obtain ⟨p, rfl, rfl⟩ := hss
  exact St.bind (st_attrs hn _ _ p _ (Nat.lt_succ_self _) (Nat.lt_succ_self _)) (fun ats t t' _ ht => st_end n ats ht) (fun ats t => end_left _ _ _)
theorem st_close (h : P2 c x y r r') : St c x y (closeM r) (closeM r') := by
  unfold closeM
  refine St.bind (st_name 11 h) (fun n s s' _ hss => ?_) (fun n s => (bind_left (must_left 62 _) fun _ _ _ => List.suffix_refl _).trans (blanks_left s))
  by_cases hs : c :: x <:+ blanksM s
  · exact St.bind (st_must 62 (p2_blanks hss hs)) (fun _ t t' _ ht => St.ok ht) (fun _ _ => List.suffix_refl _)
  · exact St.vac (bind_left (must_left 62 _) fun _ _ _ => List.suffix_refl _) hs
theorem st_okb (f : α → β) (h : St c x y M M') : St c x y (M.bind fun a s => Rs.ok (f a) s) (M'.bind fun a s => Rs.ok (f a) s) :=
  St.bind h (fun _ s s' _ hss => St.ok hss) (fun _ _ => List.suffix_refl _)
theorem open_bang {d : UInt8} {z : List UInt8} (h : isFirst (d.toNat : Int) = false) : openM (d :: z) = .bad 11 (d :: z) := by
  rw [openM, nameM, if_neg (by simp), if_pos (nameL_0.2 h)]; rfl
/-- what a token that begins with < comes to -/
theorem piece_60 (o : Nat) (z : List UInt8) : pieceM o (60 :: z) = if noteF.isPrefixOf (60 :: z) then (betM noteB [] (z.drop 3)).bind fun t r2 => .ok ⟨5, [], [], t, o⟩ r2
    else if cdF.isPrefixOf (60 :: z) then (betM cdB [] (z.drop 8)).bind fun t r2 => .ok ⟨4, [], [], t, o⟩ r2
    else if headM (o == 0) (60 :: z) then (betM headB [] (z.drop 4)).bind fun t r2 => .ok ⟨6, [], [], t, o⟩ r2
    else if z.head? = some 47 then (closeM (z.drop 1)).bind fun n r2 => .ok ⟨3, n, [], [], o⟩ r2
    else (openM z).bind fun x r2 => .ok ⟨x.1, x.2.1, x.2.2, [], o⟩ r2 := by
  rw [pieceM, if_neg (by decide)]
  rfl
theorem snd_not {z : List UInt8} {o : Nat} (h33 : z.head? ≠ some 33) (h63 : z.head? ≠ some 63) : noteF.isPrefixOf (60 :: z) = false ∧ cdF.isPrefixOf (60 :: z) = false ∧ headM (o == 0) (60 :: z) = false := by
  cases z with
  | nil => refine ⟨rfl, rfl, ?_⟩; simp [headM, headF, List.isPrefixOf]
  | cons d z =>
    have n1 : d ≠ 33 := by simpa using h33
    have n2 : d ≠ 63 := by simpa using h63
    exact ⟨by simp [noteF, List.isPrefixOf, n1.symm], by simp [cdF, List.isPrefixOf, n1.symm], by simp [headM, headF, List.isPrefixOf, n2.symm]⟩
theorem st_piece (hn : HN c x y) (h33 : c ≠ 33) (h63 : c ≠ 63) (o : Nat) (p : List UInt8) : St c x y (pieceM o (p ++ c :: x)) (pieceM o (p ++ c :: y)) := by
  cases p with
  | nil =>
    show St c x y (pieceM o (c :: x)) (pieceM o (c :: y))
    by_cases h60 : c = 60
    · subst h60
      refine St.vac (z := x) ?_ no_suf
      rw [piece_60]
      split
      · exact (bind_left (bet_left _ _ _) fun _ _ _ => List.suffix_refl _).trans (List.drop_suffix _ _)
      · split
        · exact (bind_left (bet_left _ _ _) fun _ _ _ => List.suffix_refl _).trans (List.drop_suffix _ _)
        · split
          · exact (bind_left (bet_left _ _ _) fun _ _ _ => List.suffix_refl _).trans (List.drop_suffix _ _)
          · split
            · exact (bind_left (close_left _) fun _ _ _ => List.suffix_refl _).trans (List.drop_suffix _ _)
            · exact bind_left (open_left _) fun _ _ _ => List.suffix_refl _
    · rw [pieceM, if_pos h60, pieceM, if_pos h60]
      exact st_okb (fun t => (⟨4, [], [], t, o⟩ : Tk)) (st_let 60 true _ [] [] _ (Nat.lt_succ_self _) (Nat.lt_succ_self _))
  | cons d p =>
    show St c x y (pieceM o (d :: (p ++ c :: x))) (pieceM o (d :: (p ++ c :: y)))
    by_cases h60 : d = 60
    case neg =>
      rw [pieceM, if_pos h60, pieceM, if_pos h60]
      exact st_okb (fun t => (⟨4, [], [], t, o⟩ : Tk)) (st_let 60 true _ [] (d :: p) _ (Nat.lt_succ_self _) (Nat.lt_succ_self _))
    case pos =>
    subst h60
    rw [piece_60, piece_60]
    cases p with
    | nil =>
      show St c x y (ite _ _ _ : Rs Tk) (ite _ _ _ : Rs Tk)
      obtain ⟨a1, a2, a3⟩ := snd_not (z := c :: x) (o := o) (by simpa using h33) (by simpa using h63)
      obtain ⟨b1, b2, b3⟩ := snd_not (z := c :: y) (o := o) (by simpa using h33) (by simpa using h63)
      simp only [List.nil_append, a1, a2, a3, b1, b2, b3, if_false, Bool.false_eq_true]
      by_cases h47 : (c :: x).head? = some 47
      · rw [if_pos h47]
        exact St.vac (z := x) ((bind_left (close_left _) fun _ _ _ => List.suffix_refl _)) no_suf
      · rw [if_neg h47, if_neg (show ¬ (c :: y).head? = some 47 from h47)]
        exact st_okb (fun z : Int × List UInt8 × List At2 => (⟨z.1, z.2.1, z.2.2, [], o⟩ : Tk)) (st_open hn ⟨[], rfl, rfl⟩)
    | cons d2 p =>
      by_cases hd33 : d2 = 33
      · subst hd33
        by_cases hnote : noteF.isPrefixOf (60 :: ((33 :: p) ++ c :: x)) = true
        · rw [if_pos hnote]
          by_cases hin : c :: x <:+ (((33 :: p) ++ c :: x).drop 3)
          · obtain ⟨⟨q, hq, hq'⟩, ht⟩ := P2.drop (y := y) (r := (33 :: p) ++ c :: x) (r' := (33 :: p) ++ c :: y) ⟨33 :: p, rfl, rfl⟩ hin
            have h2 : noteF.isPrefixOf (60 :: ((33 :: p) ++ c :: y)) = true := by
              rw [← hnote]
              exact pre_take (n := 4) (by rw [List.take_succ_cons, List.take_succ_cons, ht]) (by decide)
            rw [if_pos h2, hq, hq']
            exact st_okb (fun t => (⟨5, [], [], t, o⟩ : Tk)) (st_bet noteB (by decide) (by decide) q [])
          · exact St.vac (bind_left (bet_left _ _ _) fun _ _ _ => List.suffix_refl _) hin
        · rw [if_neg hnote]
          by_cases hcd : cdF.isPrefixOf (60 :: ((33 :: p) ++ c :: x)) = true
          · rw [if_pos hcd]
            by_cases hin : c :: x <:+ (((33 :: p) ++ c :: x).drop 8)
            · obtain ⟨⟨q, hq, hq'⟩, ht⟩ := P2.drop (y := y) (r := (33 :: p) ++ c :: x) (r' := (33 :: p) ++ c :: y) ⟨33 :: p, rfl, rfl⟩ hin
              have h9 : (60 :: ((33 :: p) ++ c :: y)).take 9 = (60 :: ((33 :: p) ++ c :: x)).take 9 := by rw [List.take_succ_cons, List.take_succ_cons, ht]
              have h2 : noteF.isPrefixOf (60 :: ((33 :: p) ++ c :: y)) = noteF.isPrefixOf (60 :: ((33 :: p) ++ c :: x)) := pre_take h9 (by decide)
              have h3 : cdF.isPrefixOf (60 :: ((33 :: p) ++ c :: y)) = true := by
                rw [← hcd]
                exact pre_take h9 (by decide)
              rw [if_neg (by rw [h2]; exact hnote), if_pos h3, hq, hq']
              exact st_okb (fun t => (⟨4, [], [], t, o⟩ : Tk)) (st_bet cdB (by decide) (by decide) q [])
            · exact St.vac (bind_left (bet_left _ _ _) fun _ _ _ => List.suffix_refl _) hin
          · rw [if_neg hcd]
            have h3 : headM (o == 0) (60 :: ((33 :: p) ++ c :: x)) = false := by simp [headM, headF, List.isPrefixOf]
            rw [if_neg (by rw [h3]; decide), if_neg (by simp)]
            show St c x y ((openM (33 :: (p ++ c :: x))).bind _) _
            rw [open_bang (by decide)]
            exact St.other (fun he => by have := congrArg List.length he; simp at this; omega)
      · by_cases hd63 : d2 = 63
        · subst hd63
          have e1 : ∀ z : List UInt8, noteF.isPrefixOf (60 :: ((63 :: p) ++ z)) = false := fun z => by simp [noteF, List.isPrefixOf]
          have e2 : ∀ z : List UInt8, cdF.isPrefixOf (60 :: ((63 :: p) ++ z)) = false := fun z => by simp [cdF, List.isPrefixOf]
          rw [if_neg (by rw [e1]; decide), if_neg (by rw [e2]; decide)]
          by_cases hh : headM (o == 0) (60 :: ((63 :: p) ++ c :: x)) = true
          · rw [if_pos hh]
            by_cases hin : c :: x <:+ (((63 :: p) ++ c :: x).drop 4)
            · obtain ⟨⟨q, hq, hq'⟩, ht⟩ := P2.drop (y := y) (r := (63 :: p) ++ c :: x) (r' := (63 :: p) ++ c :: y) ⟨63 :: p, rfl, rfl⟩ hin
              have h5 : (60 :: ((63 :: p) ++ c :: y))[5]? = (60 :: ((63 :: p) ++ c :: x))[5]? := by
                have g1 : (((63 :: p) ++ c :: x).drop 4)[0]? = (((63 :: p) ++ c :: y).drop 4)[0]? := by
                  rw [hq, hq']
                  cases q <;> rfl
                rw [List.getElem?_drop, List.getElem?_drop] at g1
                rw [List.getElem?_cons_succ, List.getElem?_cons_succ]
                exact g1.symm
              have hpf : headF.isPrefixOf (60 :: ((63 :: p) ++ c :: y)) = headF.isPrefixOf (60 :: ((63 :: p) ++ c :: x)) := pre_take (n := 5) (by rw [List.take_succ_cons, List.take_succ_cons, ht]) (by decide)
              have h2 : headM (o == 0) (60 :: ((63 :: p) ++ c :: y)) = true := by
                rw [← hh]
                unfold headM
                rw [hpf, h5]
              rw [if_neg (by rw [e1]; decide), if_neg (by rw [e2]; decide), if_pos h2, hq, hq']
              exact st_okb (fun t => (⟨6, [], [], t, o⟩ : Tk)) (st_bet headB (by decide) (by decide) q [])
            · exact St.vac (bind_left (bet_left _ _ _) fun _ _ _ => List.suffix_refl _) hin
          · rw [if_neg hh, if_neg (by simp)]
            show St c x y ((openM (63 :: (p ++ c :: x))).bind _) _
            rw [open_bang (by decide)]
            exact St.other (fun he => by have := congrArg List.length he; simp at this; omega)
        · obtain ⟨a1, a2, a3⟩ := snd_not (z := (d2 :: p) ++ c :: x) (o := o) (by simpa using hd33) (by simpa using hd63)
          obtain ⟨b1, b2, b3⟩ := snd_not (z := (d2 :: p) ++ c :: y) (o := o) (by simpa using hd33) (by simpa using hd63)
          simp only [a1, a2, a3, b1, b2, b3, if_false, Bool.false_eq_true]
          by_cases h47 : d2 = 47
          · subst h47
            rw [if_pos (show ((47 :: p) ++ c :: x).head? = some 47 from rfl), if_pos (show ((47 :: p) ++ c :: y).head? = some 47 from rfl)]
            exact st_okb (fun n => (⟨3, n, [], [], o⟩ : Tk)) (st_close ⟨p, rfl, rfl⟩)
          · rw [if_neg (by simpa using h47), if_neg (by simpa using h47)]
            exact st_okb (fun z : Int × List UInt8 × List At2 => (⟨z.1, z.2.1, z.2.2, [], o⟩ : Tk)) (st_open hn ⟨d2 :: p, rfl, rfl⟩)
theorem st_go (hn : HN c x y) (h33 : c ≠ 33) (h63 : c ≠ 63) {l l' : List UInt8} (hl : l.length - (c :: x).length = l'.length - (c :: y).length) (hx : (c :: x).length ≤ l.length) (hy : (c :: y).length ≤ l'.length) {e : Int} (he : E3 e) : ∀ (f : Nat) (acc : List Tk) (p : List UInt8) (f' : Nat), (p ++ c :: x).length < f → (p ++ c :: y).length < f' →
    goM l f acc (p ++ c :: x) = .bad e (c :: x) → goM l' f' acc (p ++ c :: y) = .bad e (c :: y)
  | 0, acc, p, f', h, _, _ => by omega
  | f + 1, acc, p, 0, _, h, _ => by omega
  | f + 1, acc, p, f' + 1, h, h', hg => by
    rw [goM, if_neg (by simp)] at hg
    rw [goM, if_neg (by simp)]
    have ho : l'.length - (p ++ c :: y).length = l.length - (p ++ c :: x).length := by
      simp only [List.length_append, List.length_cons] at *
      omega
    rw [ho]
    have hst := st_piece hn h33 h63 (l.length - (p ++ c :: x).length) p (x := x) (y := y)
    generalize hM' : pieceM (l.length - (p ++ c :: x).length) (p ++ c :: y) = M' at hst ⊢
    cases hM : pieceM (l.length - (p ++ c :: x).length) (p ++ c :: x) with
    | bad e2 z =>
      rw [hM] at hg hst
      have hg2 : (Rs.bad e2 z : Rs (List Tk)) = .bad e (c :: x) := hg
      cases hg2
      rw [hst.2 e he rfl]; rfl
    | ok t r1 =>
      rw [hM] at hg hst
      have hg2 : goM l f (acc ++ [t]) r1 = .bad e (c :: x) := hg
      have hleft := go_left l f (acc ++ [t]) r1
      rw [hg2] at hleft
      obtain ⟨s', h1, p2, h2, h3⟩ := hst.1 t r1 rfl hleft
      rw [h1]
      show goM l' f' (acc ++ [t]) s' = _
      have hlt : r1.length < (p ++ c :: x).length := by
        cases hp : p ++ c :: x with
        | nil => simp at hp
        | cons d z =>
          rw [hp] at hM
          have := (piece_is hM).1.length_le
          simp only [List.length_cons]; omega
      rw [h2] at hg2
      have e2 := congrArg List.length h2
      rw [h3]
      refine st_go hn h33 h63 hl hx hy he f _ p2 f' (by rw [← h2]; omega) ?_ hg2
      simp only [List.length_append, List.length_cons] at *
      omega
theorem stays {l p : List UInt8} {e : Int} (hn : HN c x y) (h33 : c ≠ 33) (h63 : c ≠ 63) (hl : l = p ++ c :: x) (hx : l.length ≤ 65536) (hy : (p ++ c :: y).length ≤ 65536) (he : E3 e) (h : allM l = .bad e (c :: x)) : allM (p ++ c :: y) = .bad e (c :: y) := by
  subst hl
  unfold allM at h ⊢
  rw [if_neg (by omega)] at h ⊢
  exact st_go hn h33 h63 (by simp) (by simp) (by simp) he _ [] p _ (Nat.lt_succ_self _) (Nat.lt_succ_self _) h
end
end Go.Proofs.Ytldgjiohigiioaa
