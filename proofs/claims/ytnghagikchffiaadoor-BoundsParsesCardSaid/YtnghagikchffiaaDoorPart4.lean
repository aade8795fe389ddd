/-
  Layer 4: contracts of word, part, isNull, rank, comparePart of package version. Own work.
-/
import Derived.Test.YtnghagikchffiaaDoorRow3
import Derived.Test.YtnghagikchffiaaDoorBytes
import Derived.Test.YtnghagikchffiaaDoorShelf
namespace Go.Proofs.YtnghagikchffiaaDoor
set_option linter.unusedVariables false
set_option linter.unusedSimpArgs false
open Go.RowKit

theorem tl_str (l : List UInt8) : (str l).toList = l := by rw [ByteArray.toList_eq]; rfl
theorem tl_lit (l : Array UInt8) : (⟨l⟩ : ByteArray).toList = l.toList := by rw [ByteArray.toList_eq]
theorem tl_ext {a b : ByteArray} (h : a.toList = b.toList) : a = b := by
  rw [ByteArray.toList_eq, ByteArray.toList_eq] at h
  exact ByteArray.ext (Array.toList_inj.1 h)
set_option maxHeartbeats 1000000 in
theorem word_any (s : ByteArray) (j : Bool) (w : World) :
    Calls Tryd.prog 89 #[.string s, .bool j] w fun e w' => e = .returned (.string (str (wordP s.data.toList j))) ∧ w' = w := by
  cases j
  all_goals
    go_enter Tryd.func89, Tryd.ntmps89
    go_wp2
    all_goals
      go_ret
      refine ⟨ret_str (tl_ext ?_), rfl⟩
      rw [← ByteArray.toList_eq, tl_str]
      simp_all [wordP, tl_lit]

theorem isNull_any (p : Pt) (w : World) :
    Calls Tryd.prog 90 #[ptV p] w fun e w' => e = .returned (.bool p.tx.isEmpty) ∧ Below w.heap.size w w' := by
  have h : (str p.tx).toList = p.tx := by rw [ByteArray.toList_eq]; rfl
  unfold ptV
  go_enter Tryd.func90, Tryd.ntmps90
  go_wp2
  go_ret
  exact ⟨ret_bool (by first | rfl | simp | (cases p.tx <;> rfl)), (Below.refl _ _).alloc (Nat.le_refl _) _⟩

set_option maxHeartbeats 1000000 in
theorem rank_any (p : Pt) (w : World) :
    Calls Tryd.prog 85 #[ptV p] w fun e w' => e = .returned (.int .i64 (rankP p)) ∧ Below w.heap.size w w' := by
  have hn := fun w => isNull_any p w
  unfold ptV at hn ⊢
  obtain ⟨hy, nu, tx⟩ := p
  have h : (str tx).toList = tx := by rw [ByteArray.toList_eq]; rfl
  simp only at hn ⊢
  generalize str tx = s at *
  subst h
  by_cases h0 : s.toList = []
  · have e0 : s.toList.isEmpty = true := by rw [h0]; rfl
    rw [e0] at hn
    have HN := Lib.hid hn; clear hn
    have hr : rankP ⟨hy, nu, s.toList⟩ = 5 := by simp [rankP, h0]
    have HR := Lib.hid hr; clear hr h0 e0
    go_enter Tryd.func85, Tryd.ntmps85
    go_wp2_with (go_at_call 90; refine (HN.out _).mono ?_; rintro e w' ⟨rfl, hb⟩)
    go_ret
    exact ⟨ret_int HR.out.symm, ((Below.refl _ _).alloc (Nat.le_refl _) _).trans (hb.mono (by simp))⟩
  · have e0 : s.toList.isEmpty = false := by simpa using h0
    rw [e0] at hn
    have HN := Lib.hid hn; clear hn
    have H0 := Lib.hid h0; clear h0 e0
    cases nu <;> cases hy
    all_goals
      go_enter Tryd.func85, Tryd.ntmps85
      go_wp2_with fail
      refine (HN.out _).mono ?_
      rintro e w1 ⟨rfl, hb⟩
      have hc := fun o => hb.cell (p := ⟨w.heap.size, o, none⟩) (by simp)
      have c0 := hc 0
      have c1 := hc 1
      have c2 := hc 2
      clear hc
      go_wp2
      all_goals
        go_ret
        refine ⟨ret_int ?_, ((Below.refl _ _).alloc (Nat.le_refl _) _).trans (hb.mono (by simp))⟩
        have := H0.out
        simp_all [rankP, rankW]

theorem numP_cons {c : UInt8} {cs : List UInt8} : numP (c :: cs) = isDigit (c.toNat : Int) := by
  unfold numP isDg isDigit
  rw [Bool.eq_iff_iff]
  simp
  omega
theorem idx0 (c : UInt8) (cs : List UInt8) (w : World) : (Instr.index 9 (.string (str (c :: cs))) (.int .i64 0)).run Tryd.prog w = .ok (.int .u8 (c.toNat : Int)) w := by
  have hk : 0 < (str (c :: cs)).size := by rw [size_str]; simp
  rw [run_index_string w 9 (str (c :: cs)) _ _ Tryd.underlying9, dif_pos ⟨by omega, by omega⟩]
  rfl
set_option maxHeartbeats 1000000 in
theorem part_any (t : ByteArray) (hy j : Bool) (w : World) :
    Calls Tryd.prog 81 #[.string t, .bool hy, .bool j] w fun e w' => e = .returned (ptV (mkPt t.data.toList hy j)) ∧ Below w.heap.size w w' := by
  obtain ⟨l, rfl⟩ : ∃ l, t = str l := ⟨t.data.toList, (str_toList t).symm⟩
  rw [toList_str]
  have hw := fun w => word_any (str l) j w
  have htr := fun w => Tryd.strings_TrimLeft_one (str l) 48 (by decide) w
  rw [toList_str] at hw htr
  have HT := Lib.hid htr; clear htr
  have HW := Lib.hid hw; clear hw
  have htl := tl_str l
  cases hc : l with
  | nil =>
    subst hc
    have e0 : (str []).toList = [] := htl
    clear htl
    go_enter Tryd.func81, Tryd.ntmps81
    go_wp2_with (go_at_call 88; refine (HT.out _).mono ?_; rintro e w' ⟨rfl, rfl⟩)
    exact bodyPost_ret (v := ptV (mkPt [] hy j)) (by simp [results, Tryd.results81, go_sem]; rfl) rfl ⟨rfl, (Below.refl _ _).alloc (Nat.le_refl _) _⟩
  | cons c cs =>
    subst hc
    have e0 : (str (c :: cs)).toList.isEmpty = false := by rw [htl]; rfl
    have e1 : ((str (c :: cs)).toList == ([] : List UInt8)) = false := by rw [htl]; rfl
    have hix := idx0 c cs
    have hn := numP_cons (c := c) (cs := cs)
    have hd := fun w => IsDigit_any (c.toNat : Int) w
    clear htl
    cases hb : isDigit (c.toNat : Int)
    all_goals
      rw [hb] at hn hd
      have HD := Lib.hid hd
      have HN := Lib.hid hn
      clear hd hn hb
      generalize hv : str (c :: cs) = s at *
      clear hv
      go_enter Tryd.func81, Tryd.ntmps81
      go_wp2_with (first
        | (go_at_call 73; refine (HD.out _).mono ?_; rintro e w' ⟨rfl, rfl⟩)
        | (go_at_call 88; refine (HT.out _).mono ?_; rintro e w' ⟨rfl, rfl⟩)
        | (go_at_call 89; refine (HW.out _).mono ?_; rintro e w' ⟨rfl, rfl⟩))
      exact bodyPost_ret (v := ptV (mkPt (c :: cs) hy j)) (by unfold mkPt; rw [HN.out]; simp [results, Tryd.results81, go_sem]; rfl) rfl ⟨rfl, (Below.refl _ _).alloc (Nat.le_refl _) _⟩

theorem cmpInt_any (x y : Int) (w : World) : Calls Tryd.prog 86 #[.int .i64 x, .int .i64 y] w fun e w' => e = .returned (.int .i64 (Lib.compareInt x y)) ∧ w' = w := Tryd.cmp_Compare_int x y w
/-- how comparePart goes on behind the ranks -/
theorem cmpPt_eq (a b : Pt) : cmpPt a b = if Lib.compareInt (rankP a) (rankP b) ≠ 0 then Lib.compareInt (rankP a) (rankP b) else
    if rankP a = 8 ∨ rankP a = 9 then (if Lib.compareInt (a.tx.length : Int) (b.tx.length : Int) ≠ 0 then Lib.compareInt (a.tx.length : Int) (b.tx.length : Int) else Lib.compareBytes a.tx b.tx) else Lib.compareBytes a.tx b.tx := by
  unfold cmpPt thenC lenKey
  by_cases h : Lib.compareInt (rankP a) (rankP b) ≠ 0
  · rw [if_pos h, if_pos h]
  · rw [if_neg h, if_neg h]
    have e : rankP a = rankP b := by
      unfold Lib.compareInt at h
      by_cases h1 : rankP a < rankP b
      · rw [if_pos h1] at h; simp at h
      · rw [if_neg h1] at h
        by_cases h2 : rankP a > rankP b
        · rw [if_pos h2] at h; simp at h
        · omega
    simp only [← e]
    by_cases h8 : rankP a = 8 ∨ rankP a = 9
    · rw [if_pos h8, if_pos h8, if_pos h8]
    · rw [if_neg h8, if_neg h8, if_neg h8, cmpInt_ord.self]
      simp
set_option maxHeartbeats 2000000 in
theorem comparePart_any (a b : Pt) (w : World) :
    Calls Tryd.prog 79 #[ptV a, ptV b] w fun e w' => e = .returned (.int .i64 (cmpPt a b)) ∧ Below w.heap.size w w' := by
  have HE := Lib.hid (cmpPt_eq a b)
  have hra := rankP_bd a
  have hrb := rankP_bd b
  have r1 := fun w => rank_any a w
  have r2 := fun w => rank_any b w
  have c1 := fun w => Tryd.cmp_Compare_int (rankP a) (rankP b) w
  have c2 := fun w => Tryd.cmp_Compare_int (a.tx.length : Int) (b.tx.length : Int) w
  have c3 := fun w => Tryd.strings_Compare (str a.tx) (str b.tx) w
  rw [toList_str, toList_str] at c3
  have z1 := size_str a.tx
  have z2 := size_str b.tx
  have C1 := Lib.hid c1; clear c1
  have C2 := Lib.hid c2; clear c2
  have C3 := Lib.hid c3; clear c3
  unfold ptV at r1 r2 ⊢
  have R1 := Lib.hid r1; clear r1
  have R2 := Lib.hid r2; clear r2
  go_enter Tryd.func79, Tryd.ntmps79
  go_wp2_with fail
  refine (R1.out _).mono ?_
  rintro e w1 ⟨rfl, hb1⟩
  have hc := fun g o (h : g < w.heap.size + 2) => hb1.cell (p := ⟨g, o, none⟩) (by simp; omega)
  have c00 := hc w.heap.size 0 (by omega)
  have c01 := hc w.heap.size 1 (by omega)
  have c02 := hc w.heap.size 2 (by omega)
  have c10 := hc (w.heap.size + 1) 0 (by omega)
  have c11 := hc (w.heap.size + 1) 1 (by omega)
  have c12 := hc (w.heap.size + 1) 2 (by omega)
  have hz1 := hb1.size
  simp only [World.size_alloc] at hz1
  clear hc
  go_wp2_with fail
  refine (R2.out _).mono ?_
  rintro e w2 ⟨rfl, hb2⟩
  have hc := fun g o (h : g < w.heap.size + 2) => hb2.cell (p := ⟨g, o, none⟩) (by show g < w1.heap.size; omega)
  have d02 := (hc w.heap.size 2 (by omega)).trans c02
  have d12 := (hc (w.heap.size + 1) 2 (by omega)).trans c12
  clear hc c00 c01 c02 c10 c11 c12
  go_wp2_with (first
    | (go_at_call 86; with_reducible refine (C1.out _).mono ?_; rintro e w' ⟨rfl, rfl⟩)
    | (go_at_call 86; with_reducible refine (C2.out _).mono ?_; rintro e w' ⟨rfl, rfl⟩)
    | (go_at_call 87; with_reducible refine (C3.out _).mono ?_; rintro e w' ⟨rfl, rfl⟩))
  all_goals
    go_ret
    refine ⟨ret_int ?_, ((((Below.refl _ _).alloc (Nat.le_refl _) _).alloc (by simp) _).trans (hb1.mono (by simp; omega))).trans (hb2.mono (by omega))⟩
    rw [HE.out]
    simp_all
end Go.Proofs.YtnghagikchffiaaDoor
