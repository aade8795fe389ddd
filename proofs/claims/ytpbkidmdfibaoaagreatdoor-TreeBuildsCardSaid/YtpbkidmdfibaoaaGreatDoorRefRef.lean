/-
  Layer 1: the contract of the answer's Ref. Own work.
-/
import Derived.Test.YtpbkidmdfibaoaaGreatDoorRef
namespace Go.Proofs.YtpbkidmdfibaoaaGreatDoor
set_option linter.unusedVariables false
set_option linter.unusedSimpArgs false
open Go.RowKit

theorem begins_any (s p : ByteArray) (w : World) :
    Calls Tryz.prog 111 #[.string s, .string p] w fun e w' => e = .returned (.bool (Lib.hasPrefix s.data.toList p.data.toList)) ∧ w' = w := by
  have hsz : s.data.toList.length = s.size := by simp
  have hpz : p.data.toList.length = p.size := by simp
  by_cases h : p.size ≤ s.size
  · have HS := Lib.hid hsz; clear hsz
    have HP := Lib.hid hpz; clear hpz
    go_enter Tryz.func111, Tryz.ntmps111
    go_wp2
    go_ret
    refine ⟨ret_bool ?_, rfl⟩
    rw [Bool.eq_iff_iff]
    simp only [beq_iff_eq, Lib.hasPrefix, List.isPrefixOf_iff_prefix, List.prefix_iff_eq_take]
    rw [ByteArray.toList_eq, ByteArray.toList_eq, ext_str, HP.out]
    simp [str]
    exact eq_comm
  · have hno : Lib.hasPrefix s.data.toList p.data.toList = false := by
      rw [Bool.eq_false_iff]
      intro hp
      have := (List.isPrefixOf_iff_prefix.1 hp).length_le
      omega
    have HN := Lib.hid hno; clear hno hsz hpz
    go_enter Tryz.func111, Tryz.ntmps111
    go_wp2
    go_ret
    exact ⟨ret_bool (by rw [HN.out]), rfl⟩

/-- the two rows of texts that Ref lays -/
def rowA : Obj := .cells #[.string ⟨#[38, 108, 116, 59]⟩, .string ⟨#[38, 103, 116, 59]⟩, .string ⟨#[38, 97, 109, 112, 59]⟩, .string ⟨#[38, 113, 117, 111, 116, 59]⟩, .string ⟨#[38, 97, 112, 111, 115, 59]⟩] 9
def rowB : Obj := .cells #[.string ⟨#[60]⟩, .string ⟨#[62]⟩, .string ⟨#[38]⟩, .string ⟨#[34]⟩, .string ⟨#[39]⟩] 9
def refV2 (x : ByteArray × Nat × Nat) : Value := .tuple #[.string x.1, .int .i64 x.2.1, .int .i64 x.2.2]
theorem ref_ret2 {x y : ByteArray × Nat × Nat} (h : x = y) : Ending.returned (refV2 x) = .returned (refV2 y) := by rw [h]
theorem below2 (w : World) : Below w.heap.size w ((w.alloc rowA).alloc rowB) := ((Below.refl _ _).alloc (Nat.le_refl _) _).alloc (by simp) _

theorem refS_word0 {l : List UInt8} (h : Lib.hasPrefix l [38, 108, 116, 59] = true) : refS l = (⟨#[60]⟩, 4, 0) := by
  obtain ⟨r, rfl⟩ := List.isPrefixOf_iff_prefix.1 h
  simp [refS, words]; rfl
theorem refS_pre0 {l : List UInt8} (h : Lib.hasPrefix [38, 108, 116, 59] l = true) (h2 : Lib.hasPrefix l [38, 108, 116, 59] = false) : refS l = (⟨#[]⟩, 0, 1) := by
  have hp := List.isPrefixOf_iff_prefix.1 h
  have hl := List.prefix_iff_eq_take.1 hp
  have hle := hp.length_le
  have hc : l.length = 0 ∨ l.length = 1 ∨ l.length = 2 ∨ l.length = 3 ∨ l.length = 4 := by simp at hle; omega
  rcases hc with hc | hc | hc | hc | hc
  all_goals first
    | (rw [hl, hc]; rfl)
    | (exfalso; rw [hl, hc] at h2; cases h2)

theorem refS_word1 {l : List UInt8} (h : Lib.hasPrefix l [38, 103, 116, 59] = true) : refS l = (⟨#[62]⟩, 4, 0) := by
  obtain ⟨r, rfl⟩ := List.isPrefixOf_iff_prefix.1 h
  simp [refS, words]; rfl
theorem refS_pre1 {l : List UInt8} (h : Lib.hasPrefix [38, 103, 116, 59] l = true) (h2 : Lib.hasPrefix l [38, 103, 116, 59] = false) : refS l = (⟨#[]⟩, 0, 1) := by
  have hp := List.isPrefixOf_iff_prefix.1 h
  have hl := List.prefix_iff_eq_take.1 hp
  have hle := hp.length_le
  have hc : l.length = 0 ∨ l.length = 1 ∨ l.length = 2 ∨ l.length = 3 ∨ l.length = 4 := by simp at hle; omega
  rcases hc with hc | hc | hc | hc | hc
  all_goals first
    | (rw [hl, hc]; rfl)
    | (exfalso; rw [hl, hc] at h2; cases h2)

theorem refS_word2 {l : List UInt8} (h : Lib.hasPrefix l [38, 97, 109, 112, 59] = true) : refS l = (⟨#[38]⟩, 5, 0) := by
  obtain ⟨r, rfl⟩ := List.isPrefixOf_iff_prefix.1 h
  simp [refS, words]; rfl
theorem refS_pre2 {l : List UInt8} (h : Lib.hasPrefix [38, 97, 109, 112, 59] l = true) (h2 : Lib.hasPrefix l [38, 97, 109, 112, 59] = false) : refS l = (⟨#[]⟩, 0, 1) := by
  have hp := List.isPrefixOf_iff_prefix.1 h
  have hl := List.prefix_iff_eq_take.1 hp
  have hle := hp.length_le
  have hc : l.length = 0 ∨ l.length = 1 ∨ l.length = 2 ∨ l.length = 3 ∨ l.length = 4 ∨ l.length = 5 := by simp at hle; omega
  rcases hc with hc | hc | hc | hc | hc | hc
  all_goals first
    | (rw [hl, hc]; rfl)
    | (exfalso; rw [hl, hc] at h2; cases h2)

theorem refS_word3 {l : List UInt8} (h : Lib.hasPrefix l [38, 113, 117, 111, 116, 59] = true) : refS l = (⟨#[34]⟩, 6, 0) := by
  obtain ⟨r, rfl⟩ := List.isPrefixOf_iff_prefix.1 h
  simp [refS, words]; rfl
theorem refS_pre3 {l : List UInt8} (h : Lib.hasPrefix [38, 113, 117, 111, 116, 59] l = true) (h2 : Lib.hasPrefix l [38, 113, 117, 111, 116, 59] = false) : refS l = (⟨#[]⟩, 0, 1) := by
  have hp := List.isPrefixOf_iff_prefix.1 h
  have hl := List.prefix_iff_eq_take.1 hp
  have hle := hp.length_le
  have hc : l.length = 0 ∨ l.length = 1 ∨ l.length = 2 ∨ l.length = 3 ∨ l.length = 4 ∨ l.length = 5 ∨ l.length = 6 := by simp at hle; omega
  rcases hc with hc | hc | hc | hc | hc | hc | hc
  all_goals first
    | (rw [hl, hc]; rfl)
    | (exfalso; rw [hl, hc] at h2; cases h2)

theorem refS_word4 {l : List UInt8} (h : Lib.hasPrefix l [38, 97, 112, 111, 115, 59] = true) : refS l = (⟨#[39]⟩, 6, 0) := by
  obtain ⟨r, rfl⟩ := List.isPrefixOf_iff_prefix.1 h
  simp [refS, words]; rfl
theorem refS_pre4 {l : List UInt8} (h : Lib.hasPrefix [38, 97, 112, 111, 115, 59] l = true) (h2 : Lib.hasPrefix l [38, 97, 112, 111, 115, 59] = false) : refS l = (⟨#[]⟩, 0, 1) := by
  have hp := List.isPrefixOf_iff_prefix.1 h
  have hl := List.prefix_iff_eq_take.1 hp
  have hle := hp.length_le
  have hc : l.length = 0 ∨ l.length = 1 ∨ l.length = 2 ∨ l.length = 3 ∨ l.length = 4 ∨ l.length = 5 ∨ l.length = 6 := by simp at hle; omega
  rcases hc with hc | hc | hc | hc | hc | hc | hc
  all_goals first
    | (rw [hl, hc]; rfl)
    | (exfalso; rw [hl, hc] at h2; cases h2)

theorem refS_no {l : List UInt8} (h0 : Lib.hasPrefix l [38, 35] = false) (hw : ∀ x ∈ words, Lib.hasPrefix l x.1 = false) (hp : ∀ x ∈ words, Lib.hasPrefix x.1 l = false) : refS l = (⟨#[]⟩, 0, 2) := by
  have h1 : [38, 35, 120].isPrefixOf l = false := by
    rw [Bool.eq_false_iff]
    intro hh
    rw [Bool.eq_false_iff] at h0
    exact h0 (List.isPrefixOf_iff_prefix.2 (List.IsPrefix.trans ⟨[120], rfl⟩ (List.isPrefixOf_iff_prefix.1 hh)))
  have h2 : [38, 35].isPrefixOf l = false := h0
  have hfind : words.find? (fun w => w.1.isPrefixOf l) = none := by
    rw [List.find?_eq_none]; intro x hx
    have := hw x hx
    unfold Lib.hasPrefix at this
    rw [this]; simp
  have hany : words.any (fun w => l.isPrefixOf w.1) = false := by
    rw [List.any_eq_false]; intro x hx
    have := hp x hx
    unfold Lib.hasPrefix at this
    rw [this]; simp
  unfold refS
  rw [h1, h2, hfind, hany]
  rfl

theorem dval_59 {b : Int} : dval b 59 = none := by
  unfold dval
  rw [if_neg (by decide), if_neg (by rintro ⟨_, h, _⟩; revert h; decide), if_neg (by rintro ⟨_, h, _⟩; revert h; decide)]
theorem num_nine {b : Int} {l : List UInt8} {f k : Nat} (hf : f ≤ k) (h9 : k - f = 9) (hall : AllDig b l f k) (hkl : k ≤ l.length) : numS b l f = (⟨#[]⟩, 0, 2) := by
  have h1 := num_fin (b := b) (l := l) (f := f) (k := f + 8) (by omega) (by omega) (fun i c a1 a2 a3 => hall i c a1 (by omega) a3) (by omega) (.inr (.inl (by omega)))
  rw [h1]
  refine fin_none (by omega) (by omega) (.inr fun h => ?_)
  have := hall (f + 8) 59 (by omega) (by omega) h
  rw [dval_59] at this
  cases this
/-- which of the four a byte is, as a digit -/
theorem dcase (b : Int) (hb : b = 10 ∨ b = 16) (c : UInt8) :
    (((48 : Int) ≤ c.toNat ∧ (c.toNat : Int) ≤ 57) ∧ dval b c = some ((c.toNat : Int) - 48)) ∨
    (b = 16 ∧ ((97 : Int) ≤ c.toNat ∧ (c.toNat : Int) ≤ 102) ∧ dval b c = some ((c.toNat : Int) - 87)) ∨
    (b = 16 ∧ ((65 : Int) ≤ c.toNat ∧ (c.toNat : Int) ≤ 70) ∧ dval b c = some ((c.toNat : Int) - 55)) ∨
    (dval b c = none ∧ ((c.toNat : Int) < 48 ∨ (57 : Int) < c.toNat ∧ (c.toNat : Int) < 65 ∨ (57 : Int) < c.toNat ∧ b = 10 ∨ (70 : Int) < c.toNat ∧ (c.toNat : Int) < 97 ∨ (102 : Int) < c.toNat)) := by
  unfold dval
  by_cases h1 : 48 ≤ c.toNat ∧ c.toNat ≤ 57
  · left; rw [if_pos h1]; exact ⟨⟨by omega, by omega⟩, rfl⟩
  rw [if_neg h1]
  by_cases h2 : b = 16 ∧ 97 ≤ c.toNat ∧ c.toNat ≤ 102
  · right; left; rw [if_pos h2]; exact ⟨h2.1, ⟨by omega, by omega⟩, rfl⟩
  rw [if_neg h2]
  by_cases h3 : b = 16 ∧ 65 ≤ c.toNat ∧ c.toNat ≤ 70
  · right; right; left; rw [if_pos h3]; exact ⟨h3.1, ⟨by omega, by omega⟩, rfl⟩
  rw [if_neg h3]
  right; right; right
  exact ⟨rfl, by omega⟩

theorem letB_empty (n : Int) : ((letB n).toList == []) = !letOk n := by
  cases h : letOk n with
  | false => rw [letB_no h, ByteArray.toList_eq]; rfl
  | true =>
    rw [letB_yes h]
    simp only [Bool.not_true, beq_eq_false_iff_ne]
    rw [ByteArray.toList_eq]
    unfold Utf8.encode
    simp only
    repeat' split
    all_goals simp

set_option maxHeartbeats 8000000 in
set_option maxRecDepth 100000 in
theorem refRef_num (s : ByteArray) (hs : s.size ≤ 1000000) (w : World) (b : Int) (f : Nat) (hbf : b = 10 ∧ f = 2 ∧ Lib.hasPrefix s.data.toList [38, 35, 120] = false ∨ b = 16 ∧ f = 3 ∧ Lib.hasPrefix s.data.toList [38, 35, 120] = true)
    (hp : Lib.hasPrefix s.data.toList [38, 35] = true) (hne : s.data.toList ≠ [38, 35]) (hne2 : s.data.toList ≠ [38, 35, 120]) :
    Calls Tryz.prog 92 #[.string s] w fun e w' => e = .returned (refV2 (refS s.data.toList)) ∧ Below w.heap.size w w' := by
  obtain ⟨r, hr⟩ := List.isPrefixOf_iff_prefix.1 hp
  have n0 : Lib.hasPrefix s.data.toList [38, 108, 116, 59] = false := by rw [← hr]; simp [Lib.hasPrefix, List.isPrefixOf]
  have m0 : Lib.hasPrefix [38, 108, 116, 59] s.data.toList = false := by rw [← hr]; simp [Lib.hasPrefix, List.isPrefixOf]
  have n1 : Lib.hasPrefix s.data.toList [38, 103, 116, 59] = false := by rw [← hr]; simp [Lib.hasPrefix, List.isPrefixOf]
  have m1 : Lib.hasPrefix [38, 103, 116, 59] s.data.toList = false := by rw [← hr]; simp [Lib.hasPrefix, List.isPrefixOf]
  have n2 : Lib.hasPrefix s.data.toList [38, 97, 109, 112, 59] = false := by rw [← hr]; simp [Lib.hasPrefix, List.isPrefixOf]
  have m2 : Lib.hasPrefix [38, 97, 109, 112, 59] s.data.toList = false := by rw [← hr]; simp [Lib.hasPrefix, List.isPrefixOf]
  have n3 : Lib.hasPrefix s.data.toList [38, 113, 117, 111, 116, 59] = false := by rw [← hr]; simp [Lib.hasPrefix, List.isPrefixOf]
  have m3 : Lib.hasPrefix [38, 113, 117, 111, 116, 59] s.data.toList = false := by rw [← hr]; simp [Lib.hasPrefix, List.isPrefixOf]
  have n4 : Lib.hasPrefix s.data.toList [38, 97, 112, 111, 115, 59] = false := by rw [← hr]; simp [Lib.hasPrefix, List.isPrefixOf]
  have m4 : Lib.hasPrefix [38, 97, 112, 111, 115, 59] s.data.toList = false := by rw [← hr]; simp [Lib.hasPrefix, List.isPrefixOf]
  have q1 : (s.toList == [38, 35]) = false := by rw [ByteArray.toList_eq]; simpa using hne
  have q2 : (s.toList == [38, 35, 120]) = false := by rw [ByteArray.toList_eq]; simpa using hne2
  have hb : b = 10 ∨ b = 16 := by omega
  have hlen : s.data.toList.length = s.size := by simp
  have hf : f ≤ s.size := by
    rcases hbf with ⟨_, rfl, _⟩ | ⟨_, rfl, h⟩
    · have := (List.isPrefixOf_iff_prefix.1 hp).length_le; simpa using this
    · have := (List.isPrefixOf_iff_prefix.1 h).length_le; simpa using this
  have HR : Hid (refS s.data.toList = numS b s.data.toList f) := Lib.hid (by
    unfold refS
    rcases hbf with ⟨rfl, rfl, h⟩ | ⟨rfl, rfl, h⟩
    · rw [if_neg (by rw [show [38, 35, 120].isPrefixOf s.data.toList = false from h]; simp), if_pos (show [38, 35].isPrefixOf s.data.toList = true from hp)]
    · rw [if_pos (show [38, 35, 120].isPrefixOf s.data.toList = true from h)])
  have HL := Lib.hid hlen; clear hlen hne hne2 hr r
  have HB := Lib.hid hb; clear hb
  rcases hbf with ⟨rfl, rfl, hx⟩ | ⟨rfl, rfl, hx⟩
  all_goals
    go_enter Tryz.func92, Tryz.ntmps92
    go_wp2
    refine wp_loop_rounds 6 ?_
    iterate 6
      rw [rounds_succ]
      go_wp2_with (go_at_call 111; refine (begins_any _ _ _).mono ?_; (first | rw [n0] | rw [m0] | rw [n1] | rw [m1] | rw [n2] | rw [m2] | rw [n3] | rw [m3] | rw [n4] | rw [m4] | rw [hp] | rw [hx]); rintro e w' ⟨rfl, rfl⟩)
  · go_loop [9, 12] (fun i n => ∃ k : Nat, 2 ≤ k ∧ k ≤ s.size ∧ k - 2 ≤ 9 ∧ i = .int .i64 k ∧ n = .int .i64 (dnum 10 ((s.data.toList.drop 2).take (k - 2))) ∧ AllDig 10 s.data.toList 2 k) (fun i _ => s.size - (intOf i).toNat)
    case atStart => exact ⟨2, Nat.le_refl _, hf, by omega, rfl, by simp [dnum], fun i c h1 h2 => absurd h1 (by omega)⟩
    case round =>
      obtain ⟨k, hfk, hks, hk9, rfl, hn, hall⟩ := hrel
      have hnb := dnum_bd9 (b := 10) (.inl rfl) (l := (s.data.toList.drop 2).take (k - 2)) (by simp; omega)
      have HALL := Lib.hid hall; clear hall
      obtain ⟨n, hnn⟩ : ∃ n, n = dnum 10 ((s.data.toList.drop 2).take (k - 2)) := ⟨_, rfl⟩
      rw [← hnn] at hn hnb
      have HN := Lib.hid hnn; clear hnn
      subst hn
      obtain ⟨hn0, hn1⟩ := hnb
      by_cases hk9' : k - 2 = 9
      · have HS := Lib.hid (num_nine hfk hk9' HALL.out (by rw [HL.out]; exact hks))
        have a1 : (9 : Int) ≤ (k : Int) - 2 := by omega
        have a2 : (8 : Int) < (k : Int) - 2 := by omega
        clear hk9'
        rcases Nat.lt_or_ge k s.size with hlt | hge
        · go_wp2
          go_ret3
          exact ⟨ref_ret2 (x := (⟨#[]⟩, 0, 2)) (by rw [HR.out, HS.out]), below2 w⟩
        · go_wp2
          go_ret3
          exact ⟨ref_ret2 (x := (⟨#[]⟩, 0, 2)) (by rw [HR.out, HS.out]), below2 w⟩
      have a1 : (k : Int) - 2 < 9 := by omega
      have a2 : (k : Int) - 2 ≤ 8 := by omega
      have hk8 : k - 2 ≤ 8 := by omega
      by_cases hkl : k = s.size
      · have HK := Lib.hid hkl; clear hkl hk9'
        have e1 : ((k : Int) == (s.size : Int)) = true := by have := HK.out; simp; omega
        have hge : ¬ k < s.size := by have := HK.out; omega
        go_wp2
        go_ret3
        refine ⟨ref_ret2 (x := (⟨#[]⟩, 0, 1)) ?_, below2 w⟩
        rw [HR.out, num_fin hfk hk8 HALL.out (by rw [HL.out]; omega) (.inl (by rw [HL.out]; exact HK.out)), fin_end hfk (by rw [HL.out]; exact HK.out)]
      have hlt : k < s.size := by omega
      have e1 : ((k : Int) == (s.size : Int)) = false := by simp; omega
      obtain ⟨c, hc⟩ : ∃ c, s.data.toList[k]? = some c := ⟨_, List.getElem?_eq_getElem (by simpa using hlt)⟩
      have hix := hidx s k c hc
      have HC := Lib.hid hc; clear hc
      have HKL := Lib.hid hkl; clear hkl hk9'
      have hc256 : (c.toNat : Int) < 256 := by have := c.toNat_lt; omega
      rcases dcase 10 (.inl rfl) c with ⟨⟨d1, d2⟩, hd⟩ | ⟨hb16, ⟨d1, d2⟩, hd⟩ | ⟨hb16, ⟨d1, d2⟩, hd⟩ | ⟨hd, hrange⟩
      · have HD := Lib.hid hd; clear hd
        go_wp2
        have hx : dnum 10 ((s.data.toList.drop 2).take (k + 1 - 2)) = n * 10 + ((c.toNat : Int) - 48) := by rw [take_dig hfk HC.out, ← HN.out, HD.out]; rfl
        exact ⟨⟨k + 1, by omega, by omega, by omega, by go_num, by rw [hx], HALL.out.next HC.out (by rw [HD.out]; rfl)⟩, by simp [intOf]; omega⟩
      · exact absurd hb16 (by decide)
      · exact absurd hb16 (by decide)
      · have HF := Lib.hid (num_fin hfk hk8 HALL.out (by rw [HL.out]; omega) (.inr (.inr ⟨c, HC.out, hd⟩)))
        have hlt' : k < s.data.toList.length := by rw [HL.out]; exact hlt
        have HLT := Lib.hid hlt'; clear hlt' hd
        have hfin : (c ≠ 59 ∨ c = 59 ∧ k = 2 ∨ c = 59 ∧ 2 < k ∧ letOk n = false ∨ c = 59 ∧ 2 < k ∧ letOk n = true) := by
          by_cases h1 : c = 59
          · rcases Nat.lt_or_ge 2 k with h2 | h2
            · cases h3 : letOk n
              · exact .inr (.inr (.inl ⟨h1, h2, rfl⟩))
              · exact .inr (.inr (.inr ⟨h1, h2, rfl⟩))
            · exact .inr (.inl ⟨h1, by omega⟩)
          · exact .inl h1
        rcases hfin with h59 | ⟨rfl, hkf⟩ | ⟨rfl, hkf, ho⟩ | ⟨rfl, hkf, ho⟩
        · have HS := Lib.hid (fin_none (b := 10) hfk HLT.out (.inr (by rw [HC.out]; simpa using h59)))
          have e3 : ((c.toNat : Int) != 59) = true := by
            rw [bne_iff_ne]
            intro h
            exact h59 (UInt8.toNat_inj.1 (by rw [show (59 : UInt8).toNat = 59 from rfl]; omega))
          clear h59
          rcases hrange with r1 | ⟨r1, r2⟩ | ⟨r1, r2⟩ | ⟨r1, r2⟩ | r1
          all_goals try (exfalso; revert r2; decide)
          all_goals try (have x1 : (57 : Int) < c.toNat := by omega)
          all_goals try (have x2 : (48 : Int) ≤ c.toNat := by omega)
          all_goals try (have x3 : (c.toNat : Int) < 97 := by omega)
          all_goals try (have x4 : (c.toNat : Int) < 65 := by omega)
          all_goals try (have x5 : (70 : Int) < c.toNat := by omega)
          all_goals try (have x6 : (65 : Int) ≤ c.toNat := by omega)
          all_goals try (have x7 : (97 : Int) ≤ c.toNat := by omega)
          all_goals try clear r2
          all_goals
            go_wp2
            go_ret3
            exact ⟨ref_ret2 (x := (⟨#[]⟩, 0, 2)) (by rw [HR.out, HF.out, HS.out]), below2 w⟩
        · have HS := Lib.hid (fin_none (b := 10) hfk HLT.out (.inl hkf))
          have e2 : ((k : Int) == 2) = true := by simp; omega
          clear hkf hrange
          go_wp2
          go_ret3
          exact ⟨ref_ret2 (x := (⟨#[]⟩, 0, 2)) (by rw [HR.out, HF.out, HS.out]), below2 w⟩
        · have HS := Lib.hid (fin_bad (b := 10) hkf HC.out (by rw [← HN.out]; exact ho))
          have e2 : ((k : Int) == 2) = false := by simp; omega
          have e4 := letB_empty n
          rw [ho] at e4
          clear hrange
          go_wp2_with (go_at_call 112; refine (refLetter_any n _).mono ?_; rintro e w1 ⟨rfl, hb1⟩)
          go_ret3
          exact ⟨ref_ret2 (x := (⟨#[]⟩, 0, 2)) (by rw [HR.out, HF.out, HS.out]), (below2 w).trans (hb1.mono (by simp; omega))⟩
        · have HS := Lib.hid (fin_some (b := 10) hkf HC.out (by rw [← HN.out]; exact ho))
          have e2 : ((k : Int) == 2) = false := by simp; omega
          have e4 := letB_empty n
          rw [ho] at e4
          clear hrange
          go_wp2_with fail
          refine (refLetter_any n _).mono ?_
          rintro e w1 ⟨rfl, hb1⟩
          have hs1 := hb1.size
          simp at hs1
          go_wp2_with fail
          refine (refLetter_any n _).mono ?_
          rintro e w2 ⟨rfl, hb2⟩
          go_wp2
          go_ret3
          exact ⟨ref_ret2 (x := (letB n, k + 1, 0)) (by rw [HR.out, HF.out, HS.out, ← HN.out]), ((below2 w).trans (hb1.mono (by simp; omega))).trans (hb2.mono (by omega))⟩
  · go_loop [9, 12] (fun i n => ∃ k : Nat, 3 ≤ k ∧ k ≤ s.size ∧ k - 3 ≤ 9 ∧ i = .int .i64 k ∧ n = .int .i64 (dnum 16 ((s.data.toList.drop 3).take (k - 3))) ∧ AllDig 16 s.data.toList 3 k) (fun i _ => s.size - (intOf i).toNat)
    case atStart => exact ⟨3, Nat.le_refl _, hf, by omega, rfl, by simp [dnum], fun i c h1 h2 => absurd h1 (by omega)⟩
    case round =>
      obtain ⟨k, hfk, hks, hk9, rfl, hn, hall⟩ := hrel
      have hnb := dnum_bd9 (b := 16) (.inr rfl) (l := (s.data.toList.drop 3).take (k - 3)) (by simp; omega)
      have HALL := Lib.hid hall; clear hall
      obtain ⟨n, hnn⟩ : ∃ n, n = dnum 16 ((s.data.toList.drop 3).take (k - 3)) := ⟨_, rfl⟩
      rw [← hnn] at hn hnb
      have HN := Lib.hid hnn; clear hnn
      subst hn
      obtain ⟨hn0, hn1⟩ := hnb
      by_cases hk9' : k - 3 = 9
      · have HS := Lib.hid (num_nine hfk hk9' HALL.out (by rw [HL.out]; exact hks))
        have a1 : (9 : Int) ≤ (k : Int) - 3 := by omega
        have a2 : (8 : Int) < (k : Int) - 3 := by omega
        clear hk9'
        rcases Nat.lt_or_ge k s.size with hlt | hge
        · go_wp2
          go_ret3
          exact ⟨ref_ret2 (x := (⟨#[]⟩, 0, 2)) (by rw [HR.out, HS.out]), below2 w⟩
        · go_wp2
          go_ret3
          exact ⟨ref_ret2 (x := (⟨#[]⟩, 0, 2)) (by rw [HR.out, HS.out]), below2 w⟩
      have a1 : (k : Int) - 3 < 9 := by omega
      have a2 : (k : Int) - 3 ≤ 8 := by omega
      have hk8 : k - 3 ≤ 8 := by omega
      by_cases hkl : k = s.size
      · have HK := Lib.hid hkl; clear hkl hk9'
        have e1 : ((k : Int) == (s.size : Int)) = true := by have := HK.out; simp; omega
        have hge : ¬ k < s.size := by have := HK.out; omega
        go_wp2
        go_ret3
        refine ⟨ref_ret2 (x := (⟨#[]⟩, 0, 1)) ?_, below2 w⟩
        rw [HR.out, num_fin hfk hk8 HALL.out (by rw [HL.out]; omega) (.inl (by rw [HL.out]; exact HK.out)), fin_end hfk (by rw [HL.out]; exact HK.out)]
      have hlt : k < s.size := by omega
      have e1 : ((k : Int) == (s.size : Int)) = false := by simp; omega
      obtain ⟨c, hc⟩ : ∃ c, s.data.toList[k]? = some c := ⟨_, List.getElem?_eq_getElem (by simpa using hlt)⟩
      have hix := hidx s k c hc
      have HC := Lib.hid hc; clear hc
      have HKL := Lib.hid hkl; clear hkl hk9'
      have hc256 : (c.toNat : Int) < 256 := by have := c.toNat_lt; omega
      rcases dcase 16 (.inr rfl) c with ⟨⟨d1, d2⟩, hd⟩ | ⟨hb16, ⟨d1, d2⟩, hd⟩ | ⟨hb16, ⟨d1, d2⟩, hd⟩ | ⟨hd, hrange⟩
      · have HD := Lib.hid hd; clear hd
        go_wp2
        have hx : dnum 16 ((s.data.toList.drop 3).take (k + 1 - 3)) = n * 16 + ((c.toNat : Int) - 48) := by rw [take_dig hfk HC.out, ← HN.out, HD.out]; rfl
        exact ⟨⟨k + 1, by omega, by omega, by omega, by go_num, by rw [hx], HALL.out.next HC.out (by rw [HD.out]; rfl)⟩, by simp [intOf]; omega⟩
      · have HD := Lib.hid hd; clear hd hb16
        have d3 : (57 : Int) < c.toNat := by omega
        have d4 : (48 : Int) ≤ c.toNat := by omega
        go_wp2
        have hx : dnum 16 ((s.data.toList.drop 3).take (k + 1 - 3)) = n * 16 + ((c.toNat : Int) - 87) := by rw [take_dig hfk HC.out, ← HN.out, HD.out]; rfl
        exact ⟨⟨k + 1, by omega, by omega, by omega, by go_num, by rw [hx], HALL.out.next HC.out (by rw [HD.out]; rfl)⟩, by simp [intOf]; omega⟩
      · have HD := Lib.hid hd; clear hd hb16
        have d3 : (57 : Int) < c.toNat := by omega
        have d4 : (48 : Int) ≤ c.toNat := by omega
        have d5 : (c.toNat : Int) < 97 := by omega
        go_wp2
        have hx : dnum 16 ((s.data.toList.drop 3).take (k + 1 - 3)) = n * 16 + ((c.toNat : Int) - 55) := by rw [take_dig hfk HC.out, ← HN.out, HD.out]; rfl
        exact ⟨⟨k + 1, by omega, by omega, by omega, by go_num, by rw [hx], HALL.out.next HC.out (by rw [HD.out]; rfl)⟩, by simp [intOf]; omega⟩
      · have HF := Lib.hid (num_fin hfk hk8 HALL.out (by rw [HL.out]; omega) (.inr (.inr ⟨c, HC.out, hd⟩)))
        have hlt' : k < s.data.toList.length := by rw [HL.out]; exact hlt
        have HLT := Lib.hid hlt'; clear hlt' hd
        have hfin : (c ≠ 59 ∨ c = 59 ∧ k = 3 ∨ c = 59 ∧ 3 < k ∧ letOk n = false ∨ c = 59 ∧ 3 < k ∧ letOk n = true) := by
          by_cases h1 : c = 59
          · rcases Nat.lt_or_ge 3 k with h2 | h2
            · cases h3 : letOk n
              · exact .inr (.inr (.inl ⟨h1, h2, rfl⟩))
              · exact .inr (.inr (.inr ⟨h1, h2, rfl⟩))
            · exact .inr (.inl ⟨h1, by omega⟩)
          · exact .inl h1
        rcases hfin with h59 | ⟨rfl, hkf⟩ | ⟨rfl, hkf, ho⟩ | ⟨rfl, hkf, ho⟩
        · have HS := Lib.hid (fin_none (b := 16) hfk HLT.out (.inr (by rw [HC.out]; simpa using h59)))
          have e3 : ((c.toNat : Int) != 59) = true := by
            rw [bne_iff_ne]
            intro h
            exact h59 (UInt8.toNat_inj.1 (by rw [show (59 : UInt8).toNat = 59 from rfl]; omega))
          clear h59
          rcases hrange with r1 | ⟨r1, r2⟩ | ⟨r1, r2⟩ | ⟨r1, r2⟩ | r1
          all_goals try (exfalso; revert r2; decide)
          all_goals try (have x1 : (57 : Int) < c.toNat := by omega)
          all_goals try (have x2 : (48 : Int) ≤ c.toNat := by omega)
          all_goals try (have x3 : (c.toNat : Int) < 97 := by omega)
          all_goals try (have x4 : (c.toNat : Int) < 65 := by omega)
          all_goals try (have x5 : (70 : Int) < c.toNat := by omega)
          all_goals try (have x6 : (65 : Int) ≤ c.toNat := by omega)
          all_goals try (have x7 : (97 : Int) ≤ c.toNat := by omega)
          all_goals try clear r2
          all_goals
            go_wp2
            go_ret3
            exact ⟨ref_ret2 (x := (⟨#[]⟩, 0, 2)) (by rw [HR.out, HF.out, HS.out]), below2 w⟩
        · have HS := Lib.hid (fin_none (b := 16) hfk HLT.out (.inl hkf))
          have e2 : ((k : Int) == 3) = true := by simp; omega
          clear hkf hrange
          go_wp2
          go_ret3
          exact ⟨ref_ret2 (x := (⟨#[]⟩, 0, 2)) (by rw [HR.out, HF.out, HS.out]), below2 w⟩
        · have HS := Lib.hid (fin_bad (b := 16) hkf HC.out (by rw [← HN.out]; exact ho))
          have e2 : ((k : Int) == 3) = false := by simp; omega
          have e4 := letB_empty n
          rw [ho] at e4
          clear hrange
          go_wp2_with (go_at_call 112; refine (refLetter_any n _).mono ?_; rintro e w1 ⟨rfl, hb1⟩)
          go_ret3
          exact ⟨ref_ret2 (x := (⟨#[]⟩, 0, 2)) (by rw [HR.out, HF.out, HS.out]), (below2 w).trans (hb1.mono (by simp; omega))⟩
        · have HS := Lib.hid (fin_some (b := 16) hkf HC.out (by rw [← HN.out]; exact ho))
          have e2 : ((k : Int) == 3) = false := by simp; omega
          have e4 := letB_empty n
          rw [ho] at e4
          clear hrange
          go_wp2_with fail
          refine (refLetter_any n _).mono ?_
          rintro e w1 ⟨rfl, hb1⟩
          have hs1 := hb1.size
          simp at hs1
          go_wp2_with fail
          refine (refLetter_any n _).mono ?_
          rintro e w2 ⟨rfl, hb2⟩
          go_wp2
          go_ret3
          exact ⟨ref_ret2 (x := (letB n, k + 1, 0)) (by rw [HR.out, HF.out, HS.out, ← HN.out]), ((below2 w).trans (hb1.mono (by simp; omega))).trans (hb2.mono (by omega))⟩

theorem of_toList {s : ByteArray} {l : List UInt8} (h : s.toList = l) : s.data.toList = l := by rw [← h, ByteArray.toList_eq]
set_option maxHeartbeats 8000000 in
set_option maxRecDepth 100000 in
/-- the answer's Ref at every text of at most a million bytes -/
theorem refRef_any (s : ByteArray) (hs : s.size ≤ 1000000) (w : World) :
    Calls Tryz.prog 92 #[.string s] w fun e w' => e = .returned (refV2 (refS s.data.toList)) ∧ Below w.heap.size w w' := by
  by_cases hnum : Lib.hasPrefix s.data.toList [38, 35] = true ∧ s.data.toList ≠ [38, 35] ∧ s.data.toList ≠ [38, 35, 120]
  · obtain ⟨h1, h2, h3⟩ := hnum
    by_cases hx : Lib.hasPrefix s.data.toList [38, 35, 120] = true
    · exact refRef_num s hs w 16 3 (.inr ⟨rfl, rfl, hx⟩) h1 h2 h3
    · exact refRef_num s hs w 10 2 (.inl ⟨rfl, rfl, by simpa using hx⟩) h1 h2 h3
  have HN := Lib.hid hnum; clear hnum
  go_enter Tryz.func92, Tryz.ntmps92
  go_wp2
  refine wp_loop_rounds 6 ?_
  rw [rounds_succ]
  go_wp2_with (go_at_call 111; refine (begins_any _ _ _).mono ?_; rintro e w' ⟨rfl, rfl⟩)
  · go_ret3
    exact ⟨ref_ret2 (refS_word0 (by assumption)).symm, below2 w⟩
  · go_ret3
    exact ⟨ref_ret2 (refS_pre0 (by assumption) (by assumption)).symm, below2 w⟩
  rw [rounds_succ]
  go_wp2_with (go_at_call 111; refine (begins_any _ _ _).mono ?_; rintro e w' ⟨rfl, rfl⟩)
  · go_ret3
    exact ⟨ref_ret2 (refS_word1 (by assumption)).symm, below2 w⟩
  · go_ret3
    exact ⟨ref_ret2 (refS_pre1 (by assumption) (by assumption)).symm, below2 w⟩
  rw [rounds_succ]
  go_wp2_with (go_at_call 111; refine (begins_any _ _ _).mono ?_; rintro e w' ⟨rfl, rfl⟩)
  · go_ret3
    exact ⟨ref_ret2 (refS_word2 (by assumption)).symm, below2 w⟩
  · go_ret3
    exact ⟨ref_ret2 (refS_pre2 (by assumption) (by assumption)).symm, below2 w⟩
  rw [rounds_succ]
  go_wp2_with (go_at_call 111; refine (begins_any _ _ _).mono ?_; rintro e w' ⟨rfl, rfl⟩)
  · go_ret3
    exact ⟨ref_ret2 (refS_word3 (by assumption)).symm, below2 w⟩
  · go_ret3
    exact ⟨ref_ret2 (refS_pre3 (by assumption) (by assumption)).symm, below2 w⟩
  rw [rounds_succ]
  go_wp2_with (go_at_call 111; refine (begins_any _ _ _).mono ?_; rintro e w' ⟨rfl, rfl⟩)
  · go_ret3
    exact ⟨ref_ret2 (refS_word4 (by assumption)).symm, below2 w⟩
  · go_ret3
    exact ⟨ref_ret2 (refS_pre4 (by assumption) (by assumption)).symm, below2 w⟩
  rw [rounds_succ]
  go_wp2_with fail
  · rename_i h
    go_ret3
    exact ⟨ref_ret2 (x := (⟨#[]⟩, 0, 1)) (by rw [of_toList h]; rfl), below2 w⟩
  · rename_i h1 h2
    have h3 : s.toList = [38, 35, 120] := by rcases h2 with h2 | h2 <;> first | (exact absurd (by simpa using h2) h1) | (simpa using h2)
    go_ret3
    exact ⟨ref_ret2 (x := (⟨#[]⟩, 0, 1)) (by rw [of_toList h3]; rfl), below2 w⟩
  · have h1 : ¬ s.toList = [38, 35] := by assumption
    have h2 : (s.toList == [38, 35]) = false ∧ (s.toList == [38, 35, 120]) = false := by assumption
    have hno : Lib.hasPrefix s.data.toList [38, 35] = false := by
      rw [Bool.eq_false_iff]
      intro hp
      refine HN.out ⟨hp, fun h => h1 (by rw [ByteArray.toList_eq]; exact h), fun h => ?_⟩
      have h3 : s.toList = [38, 35, 120] := by rw [ByteArray.toList_eq]; exact h
      rw [h3] at h2
      simp at h2
    have HNO := Lib.hid hno
    refine (begins_any _ _ _).mono ?_
    rw [hno]
    rintro e w' ⟨rfl, rfl⟩
    go_wp2
    go_ret3
    refine ⟨ref_ret2 (x := (⟨#[]⟩, 0, 2)) (refS_no HNO.out ?_ ?_).symm, below2 w⟩
    · intro x hx
      simp [words] at hx
      rcases hx with rfl | rfl | rfl | rfl | rfl <;> assumption
    · intro x hx
      simp [words] at hx
      rcases hx with rfl | rfl | rfl | rfl | rfl <;> assumption
end Go.Proofs.YtpbkidmdfibaoaaGreatDoor
