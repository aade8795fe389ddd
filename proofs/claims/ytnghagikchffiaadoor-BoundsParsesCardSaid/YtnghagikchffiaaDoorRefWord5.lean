/-
  Layer 5: the contracts of the answer's skip, word, first, end. Own work.
-/
import Derived.Test.YtnghagikchffiaaDoorBack5
import Derived.Deep.QuietTactic
import Derived.BigQuiet
import Derived.Deep.Cut
import Derived.Deep.CutRange
namespace Go.Proofs.YtnghagikchffiaaDoor
set_option linter.unusedVariables false
set_option linter.unusedSimpArgs false
open Go.RowKit

def blB (c : UInt8) : Bool := blankN c.toNat
def skipL (l : List UInt8) : List UInt8 := l.dropWhile blB
def stopB (c : UInt8) : Bool := c == 91 || c == 93 || c == 40 || c == 41 || c == 44 || blB c
def goB (c : UInt8) : Bool := !stopB c
def wordL (l : List UInt8) : List UInt8 × List UInt8 := ((skipL l).takeWhile goB, skipL ((skipL l).dropWhile goB))
theorem is_blank (c : UInt8) (w : World) : Calls Tryd.prog 54 #[.int .u8 (c.toNat : Int), .int .i64 1] w fun e w' => e = .returned (.bool (blB c)) ∧ w' = w := by
  refine is_at _ 1 (blB c) (by omega) (by omega) ?_ w
  unfold blB
  rw [blank_is]
  unfold clsI
  cases isBlank (c.toNat : Int) <;> cases isDigit (c.toNat : Int) <;> cases isFirst (c.toNat : Int) <;> cases isMark (c.toNat : Int) <;> cases isText (c.toNat : Int) <;> rfl
theorem skip_cons (c : UInt8) (l : List UInt8) : skipL (c :: l) = if blB c then skipL l else c :: l := by
  unfold skipL
  rw [List.dropWhile_cons]
set_option maxHeartbeats 1000000 in
theorem skip_any (l : List UInt8) (hl : l.length ≤ 1000000) (w : World) :
    Calls Tryd.prog 32 #[.string (str l)] w fun e w' => e = .returned (.string (str (skipL l))) ∧ w' = w := by
  go_enter Tryd.func32, Tryd.ntmps32
  go_wp2
  go_loop [0] (fun s => ∃ m : List UInt8, m.length ≤ l.length ∧ s = .string (str m) ∧ skipL m = skipL l) (fun s => match s with | .string t => t.size | _ => 0)
  case atStart => exact ⟨l, Nat.le_refl _, rfl, rfl⟩
  case round =>
    obtain ⟨m, hm, rfl, hsk⟩ := hrel
    have HSK := Lib.hid hsk
    clear hsk
    cases m with
    | nil =>
      have HE := Lib.hid (show str (skipL l) = str [] by rw [← HSK.out]; rfl)
      have hz : (str ([] : List UInt8)).size = 0 := rfl
      generalize str ([] : List UInt8) = t at HE hz ⊢
      go_wp2
      go_ret
      exact ⟨ret_str HE.out.symm, rfl⟩
    | cons c r =>
      have hz : (str (c :: r)).size = r.length + 1 := str_size _
      have hi := bidx (str (c :: r)) 0 c (by rw [str_data]; rfl)
      have hi0 : ∀ w, (Instr.index 9 (.string (str (c :: r))) (.int .i64 0)).run Tryd.prog w = .ok (.int .u8 (c.toNat : Int)) w := fun w => hi w
      have hx : (str (c :: r)).extract 1 (str (c :: r)).size = str r := drop_str (c :: r) 1
      have HX := Lib.hid hx
      have HISB := Lib.hid (fun w => is_blank c w)
      have hcons := skip_cons c r
      rw [HSK.out] at hcons
      generalize blB c = b at HISB hcons
      have HC := Lib.hid hcons
      simp only [List.length_cons] at hm
      have hzI : ((str (c :: r)).size : Int) ≤ 1000000 := by rw [hz]; omega
      have hz1 : (0 : Int) < ((str (c :: r)).size : Int) := by rw [hz]; omega
      have hz2 : (1 : Int) ≤ ((str (c :: r)).size : Int) := by rw [hz]; omega
      have HZ := Lib.hid hz
      clear hi hx hcons hz
      have HC2 := Lib.hid (show str (c :: r) = str (c :: r) from rfl)
      generalize hT : str (c :: r) = t at HX hi0 hzI hz1 hz2 HZ ⊢
      have HT := Lib.hid hT
      clear hT HC2
      cases b
      · have HE := Lib.hid (show str (skipL l) = t by rw [HC.out, ← HT.out]; rfl)
        go_wp2_with (go_at_call 54; with_reducible refine (HISB.out _).mono ?_; rintro e w' ⟨rfl, rfl⟩)
        go_ret
        exact ⟨ret_str HE.out.symm, rfl⟩
      · have HE := Lib.hid (show skipL r = skipL l by have := HC.out; simpa using this.symm)
        go_wp2_with (go_at_call 54; with_reducible refine (HISB.out _).mono ?_; rintro e w' ⟨rfl, rfl⟩)
        exact ⟨⟨r, by omega, by rw [HX.out], HE.out⟩, by rw [HX.out]; show (str r).size < t.size; rw [HZ.out, str_size]; omega⟩
theorem first_any (l : List UInt8) (w : World) : Calls Tryd.prog 29 #[.string (str l)] w fun e w' => e = .returned (.int .u8 (nextS (str l))) ∧ w' = w := by
  cases l with
  | nil =>
    have hz : (str ([] : List UInt8)).size = 0 := rfl
    have hn : nextS (str []) = 0 := rfl
    have HN := Lib.hid hn
    clear hn
    generalize str ([] : List UInt8) = t at HN hz ⊢
    go_enter Tryd.func29, Tryd.ntmps29
    go_wp2
    go_ret
    exact ⟨ret_int HN.out.symm, rfl⟩
  | cons c r =>
    have hz : (str (c :: r)).size = r.length + 1 := str_size _
    have hi := bidx (str (c :: r)) 0 c (by rw [str_data]; rfl)
    have hi0 : ∀ w, (Instr.index 9 (.string (str (c :: r))) (.int .i64 0)).run Tryd.prog w = .ok (.int .u8 (c.toNat : Int)) w := fun w => hi w
    have HN := Lib.hid (next_str c r)
    have hz1 : (((str (c :: r)).size : Int) == 0) = false := by rw [hz]; apply beq_false_of_ne; omega
    clear hi hz
    generalize str (c :: r) = t at HN hi0 hz1 ⊢
    go_enter Tryd.func29, Tryd.ntmps29
    go_wp2
    go_ret
    exact ⟨ret_int HN.out.symm, rfl⟩
/-- an end of a word -/
def endOf (u : List UInt8) (closed : Bool) : En := if u = [] then ⟨false, .empty, false⟩ else ⟨true, str u, closed⟩
set_option maxRecDepth 100000 in
theorem refEnd_any (u : List UInt8) (closed : Bool) (w : World) : Calls Tryd.prog 31 #[.string (str u), .bool closed] w fun e w' => e = .returned (enV (endOf u closed)) ∧ Below w.heap.size w w' := by
  have hq := heap_alloc_new w (.cells #[.bool false, .string { data := #[] }, .bool false] 58)
  have hb0 : Below w.heap.size w (w.alloc (.cells #[.bool false, .string { data := #[] }, .bool false] 58)) := (Below.refl w.heap.size w).alloc (Nat.le_refl _) _
  have hem := emp_is (str u)
  have HE := Lib.hid (show endOf u closed = if u = [] then ⟨false, .empty, false⟩ else ⟨true, str u, closed⟩ from rfl)
  generalize endOf u closed = en at HE ⊢
  go_enter Tryd.func31, Tryd.ntmps31
  go_upto_region 1 with fail
  generalize (w.alloc (.cells #[.bool false, .string { data := #[] }, .bool false] 58)) = w1 at hq hb0 ⊢
  have HQ := Lib.hid hq
  have HB := Lib.hid hb0
  obtain ⟨x0, x1, x2, f2⟩ := row3_cells hq
  have f0 : w1.frozen? ⟨w.heap.size, 0, none⟩ = false := frozen_of_row w1 _ 0 _ _ hq
  have f1 : w1.frozen? ⟨w.heap.size, 1, none⟩ = false := frozen_of_row w1 _ 1 _ _ hq
  clear hq hb0
  by_cases h0 : u = []
  · have he := HE.out
    rw [if_pos h0] at he
    subst he
    subst h0
    rw [show (str ([] : List UInt8)).size = 0 from rfl] at hem
    have hem' : ((str ([] : List UInt8)).toList == ([] : List UInt8)) = true := hem
    clear hem
    generalize str ([] : List UInt8) = t at hem' ⊢
    go_wp2
    refine bodyPost_ret (results_cell_row (P := Tryd.prog) rfl _ _ w.heap.size 58 _ (0, 0) _ rfl (row_set3 (.bool false) (.string .empty) (.bool false) _ HQ.out) Tryd.underlying58 rfl (by kernel_rfl)) rfl ?_
    exact ⟨rfl, ((HB.out.setCell (Nat.le_refl _) _).setCell (Nat.le_refl _) _).setCell (Nat.le_refl _) _⟩
  · have he := HE.out
    rw [if_neg h0] at he
    subst he
    have hne : ((str u).toList == ([] : List UInt8)) = false := by
      rw [hem]
      apply decide_eq_false
      rw [str_size]
      exact fun h => h0 (List.eq_nil_of_length_eq_zero h)
    clear hem h0
    generalize hst : str u = t at hne ⊢
    have HST := Lib.hid hst
    clear hst
    go_wp2
    refine bodyPost_ret (results_cell_row (P := Tryd.prog) rfl _ _ w.heap.size 58 _ (0, 0) _ rfl (row_set3 (.bool true) (.string t) (.bool closed) _ HQ.out) Tryd.underlying58 rfl (by kernel_rfl)) rfl ?_
    exact ⟨by rw [HST.out]; rfl, ((HB.out.setCell (Nat.le_refl _) _).setCell (Nat.le_refl _) _).setCell (Nat.le_refl _) _⟩
theorem go_false {c : UInt8} (h : c = 91 ∨ c = 93 ∨ c = 40 ∨ c = 41 ∨ c = 44) : goB c = false := by
  rcases h with rfl | rfl | rfl | rfl | rfl <;> rfl
theorem go_else {c : UInt8} (h1 : c ≠ 91) (h2 : c ≠ 93) (h3 : c ≠ 40) (h4 : c ≠ 41) (h5 : c ≠ 44) : goB c = !blB c := by
  unfold goB stopB
  simp [h1, h2, h3, h4, h5]
theorem word_end {m : List UInt8} {k : Nat} (hk : k ≤ m.length) (ha : (m.take k).all goB = true) (hs : ∀ c, m[k]? = some c → goB c = false) : m.takeWhile goB = m.take k ∧ m.dropWhile goB = m.drop k := by
  have hlen := span_len goB m k hk ha hs
  have h1 : m.takeWhile goB = m.take k := by
    rw [List.prefix_iff_eq_take.1 (List.takeWhile_prefix goB), hlen]
  refine ⟨h1, ?_⟩
  have h2 := List.takeWhile_append_dropWhile (p := goB) (l := m)
  rw [h1] at h2
  have h3 := List.take_append_drop k m
  exact List.append_cancel_left (h2.trans h3.symm)
theorem skip_len (l : List UInt8) : (skipL l).length ≤ l.length := (List.dropWhile_sublist blB).length_le
set_option maxRecDepth 100000 in
set_option maxHeartbeats 2000000 in
theorem refWord_any (l : List UInt8) (hl : l.length ≤ 1000000) (w : World) :
    Calls Tryd.prog 30 #[.string (str l)] w fun e w' => e = .returned (.tuple #[.string (str (wordL l).1), .string (str (wordL l).2)]) ∧ ∃ n, w' = w.drewN n := by
  have HSK := Lib.hid (fun w => skip_any l hl w)
  have hml : (skipL l).length ≤ 1000000 := Nat.le_trans (skip_len l) hl
  have HW := Lib.hid (show (wordL l).1 = (skipL l).takeWhile goB ∧ (wordL l).2 = skipL ((skipL l).dropWhile goB) from ⟨rfl, rfl⟩)
  generalize wordL l = wl at HW ⊢
  obtain ⟨w1, w2⟩ := wl
  simp only at HW ⊢
  generalize skipL l = m at HSK hml HW
  have hz : (str m).size = m.length := str_size m
  have HZ := Lib.hid hz
  have hzI : ((str m).size : Int) ≤ 1000000 := by rw [hz]; omega
  have HD := Lib.hid (fun k => drop_str m k)
  have HTK := Lib.hid (fun k => take_str m k)
  have HIX := Lib.hid (fun k c (h : m[k]? = some c) w => bidx (str m) k c (by rw [str_data]; exact h) w)
  have HSK2 := Lib.hid (fun k w => skip_any (m.drop k) (by rw [List.length_drop]; omega) w)
  generalize str m = t at HSK hz hzI HD HTK HIX HZ
  clear hz
  go_enter Tryd.func30, Tryd.ntmps30
  go_wp2_with fail
  refine (HSK.out _).mono ?_
  rintro e w9 ⟨rfl, rfl⟩
  go_wp2_with fail
  go_loop [4] (fun i => ∃ k : Nat, k ≤ m.length ∧ i = .int .i64 k ∧ (m.take k).all goB = true) (fun i => m.length - (intOf i).toNat)
  case atStart => exact ⟨0, by omega, rfl, by simp⟩
  case round =>
    obtain ⟨k, hk, rfl, hall⟩ := hrel
    have HALL := Lib.hid hall
    clear hall
    by_cases hlt : k < m.length
    · obtain ⟨c, hc⟩ : ∃ c, m[k]? = some c := ⟨_, List.getElem?_eq_getElem hlt⟩
      have hix := HIX.out k c hc
      have hltI : (k : Int) < t.size := by rw [HZ.out]; omega
      have hkI : (k : Int) ≤ 1000000 := by omega
      have HCC := Lib.hid hc
      have HIS := Lib.hid (fun w => is_blank c w)
      have hlt8 := c.toNat_lt
      obtain ⟨gb, hgb⟩ : ∃ gb, gb = goB c := ⟨_, rfl⟩
      have HG := Lib.hid hgb
      clear hgb hc
      go_upto_region 3 with fail
      go_cut [47] from 7 to 49 (fun u wx => u = .bool gb ∧ w9 = wx)
      case first =>
        have eqn : ∀ n : UInt8, c ≠ n → ((c.toNat : Int) != (n.toNat : Int)) = true := fun n hn => by
          simp only [bne_iff_ne, ne_eq]
          exact fun h => hn (UInt8.toNat_inj.1 (by omega))
        have EQN := Lib.hid eqn
        clear eqn
        by_cases h91 : c = 91
        · have hg : gb = false := HG.out.trans (go_false (.inl h91))
          subst hg
          subst h91
          go_wp2_with fail
          go_meet
          exact ⟨rfl, rfl⟩
        have n1 : ((c.toNat : Int) != 91) = true := EQN.out 91 h91
        by_cases h93 : c = 93
        · have hg : gb = false := HG.out.trans (go_false (.inr (.inl h93)))
          subst hg
          subst h93
          go_wp2_with fail
          go_meet
          exact ⟨rfl, rfl⟩
        have n2 : ((c.toNat : Int) != 93) = true := EQN.out 93 h93
        by_cases h40 : c = 40
        · have hg : gb = false := HG.out.trans (go_false (.inr (.inr (.inl h40))))
          subst hg
          subst h40
          go_wp2_with fail
          go_meet
          exact ⟨rfl, rfl⟩
        have n3 : ((c.toNat : Int) != 40) = true := EQN.out 40 h40
        by_cases h41 : c = 41
        · have hg : gb = false := HG.out.trans (go_false (.inr (.inr (.inr (.inl h41)))))
          subst hg
          subst h41
          go_wp2_with fail
          go_meet
          exact ⟨rfl, rfl⟩
        have n4 : ((c.toNat : Int) != 41) = true := EQN.out 41 h41
        by_cases h44 : c = 44
        · have hg : gb = false := HG.out.trans (go_false (.inr (.inr (.inr (.inr h44)))))
          subst hg
          subst h44
          go_wp2_with fail
          go_meet
          exact ⟨rfl, rfl⟩
        have n5 : ((c.toNat : Int) != 44) = true := EQN.out 44 h44
        have HGG := Lib.hid (HG.out.trans (go_else h91 h93 h40 h41 h44))
        generalize blB c = bb at HIS HGG
        have hg := HGG.out
        subst hg
        clear HGG HG h91 h93 h40 h41 h44
        go_wp2_with fail
        refine (HIS.out _).mono ?_
        rintro e wz ⟨rfl, rfl⟩
        go_wp2_with fail
        go_meet
        exact ⟨rfl, rfl⟩
      case rest =>
        obtain ⟨rfl, rfl⟩ := hcut
        cases gb
        · have hcf : goB c = false := HG.out.symm
          have hend := word_end hk HALL.out (fun d hd => by rw [HCC.out] at hd; cases hd; exact hcf)
          have hw1 : w1 = m.take k := HW.out.1.trans hend.1
          have hw2 : w2 = skipL (m.drop k) := by rw [HW.out.2, hend.2]
          have HD1 := Lib.hid (HTK.out k)
          have HD2 := Lib.hid (HD.out k)
          have HSKk := Lib.hid (HSK2.out k)
          have HW1 := Lib.hid hw1
          have HW2 := Lib.hid hw2
          have hkt : (k : Int) ≤ t.size := by rw [HZ.out]; omega
          have hk0 : (0 : Int) ≤ k := by omega
          have HSL := Lib.hid (show t.extract k t.size = str (m.drop k) from HD2.out)
          have HSKt := Lib.hid (show ∀ w, Calls Tryd.prog 32 #[.string (t.extract k t.size)] w fun e w' => e = .returned (.string (str (skipL (m.drop k)))) ∧ w' = w from fun w => by rw [HSL.out]; exact HSKk.out w)
          clear hend hw1 hw2 HALL
          go_wp2_with fail
          go_quiet ((go_at_call 32; exact Calls.quiet_of_same (HSKt.out _)))
          go_wp2
          go_ret2
          exact ⟨by rw [HW1.out, HW2.out, ← HD1.out]; rfl, _, rfl⟩
        · have HNX := Lib.hid (show (m.take (k + 1)).all goB = true by rw [take_snoc _ k c HCC.out, List.all_append, HALL.out]; simp [← HG.out])
          go_wp2
          exact ⟨⟨k + 1, by omega, by go_num, HNX.out⟩, by simp [intOf]; omega⟩
    · have hkl : k = m.length := by omega
      subst hkl
      have hltI : (t.size : Int) ≤ m.length := by rw [HZ.out]; omega
      have hend := word_end hk HALL.out (fun d hd => by rw [List.getElem?_eq_none (Nat.le_refl _)] at hd; cases hd)
      have hw1 : w1 = m.take m.length := HW.out.1.trans hend.1
      have hw2 : w2 = skipL (m.drop m.length) := by rw [HW.out.2, hend.2]
      have HD1 := Lib.hid (HTK.out m.length)
      have HD2 := Lib.hid (HD.out m.length)
      have HSKk := Lib.hid (HSK2.out m.length)
      have HW1 := Lib.hid hw1
      have HW2 := Lib.hid hw2
      have hkt : (m.length : Int) ≤ t.size := by rw [HZ.out]; omega
      have hk0 : (0 : Int) ≤ m.length := by omega
      have HSL := Lib.hid (show t.extract m.length t.size = str (m.drop m.length) from HD2.out)
      have HSKt := Lib.hid (show ∀ w, Calls Tryd.prog 32 #[.string (t.extract m.length t.size)] w fun e w' => e = .returned (.string (str (skipL (m.drop m.length)))) ∧ w' = w from fun w => by rw [HSL.out]; exact HSKk.out w)
      clear hend hw1 hw2 HALL
      go_wp2_with fail
      go_quiet ((go_at_call 32; exact Calls.quiet_of_same (HSKt.out _)))
      go_wp2
      go_ret2
      exact ⟨by rw [HW1.out, HW2.out, ← HD1.out]; rfl, _, rfl⟩
end Go.Proofs.YtnghagikchffiaaDoor
