/-
  Layer 1: places: what they are (plain), and the contracts of chars.At and of its answer. Own work.
-/
import Derived.Test.YtpbkidmdfibaoaaGreatDoorNum2
import Derived.Test.YtpbkidmdfibaoaaGreatDoorShelf
namespace Go.Proofs.YtpbkidmdfibaoaaGreatDoor
set_option linter.unusedVariables false
set_option linter.unusedSimpArgs false
open Go.RowKit

def lineS (l : List UInt8) : Int := 1 + (l.count 10 : Nat)
def colS (l : List UInt8) : Int := l.foldl (fun k c => if c = 10 then 1 else k + 1) 1
theorem colS_snoc (l : List UInt8) (c : UInt8) : colS (l ++ [c]) = if c = 10 then 1 else colS l + 1 := by simp [colS, List.foldl_append]
theorem lineS_snoc (l : List UInt8) (c : UInt8) : lineS (l ++ [c]) = if c = 10 then lineS l + 1 else lineS l := by
  by_cases h : c = 10
  · subst h; simp [lineS, List.count_append]; omega
  · simp [lineS, List.count_append, h, List.count_cons]
theorem colS_none (l : List UInt8) (h : ∀ c ∈ l, c ≠ 10) : colS l = l.length + 1 := by
  have : ∀ (l : List UInt8) (k : Int), (∀ c ∈ l, c ≠ 10) → l.foldl (fun k c => if c = 10 then 1 else k + 1) k = k + l.length := by
    intro l
    induction l with
    | nil => intro k _; simp
    | cons c l ih =>
      intro k h
      simp only [List.foldl_cons, if_neg (h c (by simp)), List.length_cons]
      rw [ih _ (fun x hx => h x (by simp [hx]))]
      omega
  unfold colS
  rw [this l 1 h]
  omega
theorem colS_some (a b : List UInt8) (h : ∀ c ∈ b, c ≠ 10) : colS (a ++ 10 :: b) = b.length + 1 := by
  unfold colS
  rw [List.foldl_append, List.foldl_cons, if_pos rfl]
  exact colS_none b h
theorem colS_bd (l : List UInt8) : 1 ≤ colS l ∧ colS l ≤ l.length + 1 := by
  rcases List.eq_nil_or_concat l with rfl | ⟨l', c, rfl⟩
  · simp [colS]
  · induction l' generalizing c with
    | nil => simp [colS]; split <;> omega
    | cons => 
      rename_i d l ih
      rw [List.concat_eq_append, colS_snoc]
      split
      · simp; omega
      · have : ∀ m : List UInt8, 1 ≤ colS m ∧ colS m ≤ m.length + 1 := by
          intro m
          have : ∀ (m : List UInt8) (k : Int), 1 ≤ k → 1 ≤ m.foldl (fun k c => if c = 10 then 1 else k + 1) k ∧ m.foldl (fun k c => if c = 10 then 1 else k + 1) k ≤ k + m.length := by
            intro m
            induction m with
            | nil => intro k hk; simp; exact hk
            | cons x m ih2 =>
              intro k hk
              simp only [List.foldl_cons, List.length_cons]
              split
              · have := ih2 1 (by omega); omega
              · have := ih2 (k + 1) (by omega); omega
          have := this m 1 (by omega)
          unfold colS
          omega
        have := this (d :: l)
        simp at this ⊢
        omega
theorem lineS_bd (l : List UInt8) : 1 ≤ lineS l ∧ lineS l ≤ l.length + 1 := by
  have := List.count_le_length (a := (10 : UInt8)) (l := l)
  unfold lineS
  omega

theorem last_col (s : ByteArray) : (s.size : Int) - Lib.lastIndexByte s 10 = colS s.data.toList := by
  have hlen : s.data.toList.length = s.size := by simp
  have get (j : Nat) (hj : j < s.size) : s.data.toList[j]'(by rw [hlen]; exact hj) = s.data[j]! := by
    have hj' : j < s.data.size := hj
    rw [getElem!_pos s.data j hj']
    simp
  have ne (c : UInt8) (h : (c.toNat : Int) ≠ 10) : c ≠ 10 := fun e => h (by rw [e]; rfl)
  unfold Lib.lastIndexByte
  rcases Lib.lastIdx_spec s 10 s.size with ⟨h1, h2⟩ | ⟨i, hi, h1, h2, h3⟩
  · rw [h1, colS_none _ (fun c hc => ?_), hlen]
    · omega
    · obtain ⟨j, hj, rfl⟩ := List.getElem_of_mem hc
      rw [get j (by rw [← hlen]; exact hj)]
      exact ne _ (h2 j (by rw [← hlen]; exact hj))
  · have hi' : i < s.data.toList.length := by rw [hlen]; exact hi
    have h10 : s.data.toList[i] = 10 := by
      rw [get i hi]
      exact UInt8.toNat_inj.1 (by rw [show (10 : UInt8).toNat = 10 from rfl]; omega)
    have hsplit : s.data.toList = s.data.toList.take i ++ 10 :: s.data.toList.drop (i + 1) := by
      conv => lhs; rw [← List.take_append_drop i s.data.toList, List.drop_eq_getElem_cons hi', h10]
    rw [h1]
    conv => rhs; rw [hsplit]
    rw [colS_some _ _ (fun c hc => ?_)]
    · rw [List.length_drop, hlen]; omega
    · obtain ⟨j, hj, rfl⟩ := List.getElem_of_mem hc
      rw [List.length_drop, hlen] at hj
      rw [List.getElem_drop, get (i + 1 + j) (by omega)]
      exact ne _ (h3 _ (by omega) (by omega))

/-- the place with o bytes ahead -/
def placeV (l : List UInt8) (o : Nat) : Value := .agg #[.int .i64 o, .int .i64 (lineS (l.take o)), .int .i64 (colS (l.take o))]

set_option maxHeartbeats 1000000 in
theorem At_any (s : ByteArray) (hs : s.size ≤ 1000000) (off : Int) (o : Nat) (ho : min (max off 0) (s.size : Int) = (o : Int)) (w : World) :
    Calls Tryz.prog 21 #[.string s, .int .i64 off] w fun e w' => e = .returned (placeV s.data.toList o) ∧ Below w.heap.size w w' := by
  have hos : o ≤ s.size := by omega
  have hlen : s.data.toList.length = s.size := by simp
  have htl : (s.extract 0 o).data.toList = s.data.toList.take o := by rw [ext_str]; simp [str]
  have hsz : (s.extract 0 o).size = o := by
    show (s.extract 0 o).data.size = o
    rw [← Array.length_toList, htl]; simp; omega
  have hcol := last_col (s.extract 0 o)
  rw [hsz, htl] at hcol
  obtain ⟨li, hli⟩ : ∃ li, li = Lib.lastIndexByte (s.extract 0 o) 10 := ⟨_, rfl⟩
  obtain ⟨n, hn⟩ : ∃ n, n = Lib.countByte (s.extract 0 o).data.toList 10 := ⟨_, rfl⟩
  have hline : 1 + (n : Int) = lineS (s.data.toList.take o) := by rw [hn, htl]; rfl
  have hn1 : (n : Int) ≤ 1000000 := by
    have := lineS_bd (s.data.toList.take o)
    simp at this
    omega
  have hc1 := colS_bd (s.data.toList.take o)
  rw [← hli] at hcol
  have hl1 : -1 ≤ li := by simp at hc1; omega
  have hl2 : li ≤ 1000000 := by simp at hc1; omega
  have hC := Tryz.strings_Count_one (s.extract 0 o) 10
  have hL := Tryz.strings_LastIndexByte (s.extract 0 o) 10 (by rw [hsz]; omega)
  rw [← hn] at hC
  rw [← hli] at hL
  have HC := Lib.hid hC; clear hC
  have HL := Lib.hid hL; clear hL
  have HLINE := Lib.hid hline; clear hline
  have HCOL := Lib.hid hcol; clear hcol hn hli hsz htl hlen hc1
  have ho2 : (o : Int) ≤ 1000000 := by omega
  go_enter Tryz.func21, Tryz.ntmps21
  go_wp2_with (first
    | (go_at_call 45; refine (HC.out _).mono ?_; rintro e w' ⟨rfl, rfl⟩)
    | (go_at_call 46; refine (HL.out _).mono ?_; rintro e w' ⟨rfl, rfl⟩))
  refine bodyPost_ret (v := .agg #[.int .i64 o, .int .i64 (1 + (n : Int)), .int .i64 ((o : Int) - li)]) (by simp [results, Tryz.results21, go_sem]) rfl ⟨?_, ?_⟩
  · rw [HLINE.out, HCOL.out]; rfl
  · exact (Below.refl _ _).alloc (Nat.le_refl _) _

/-- the answer's At -/
theorem refAt_any (s : ByteArray) (hs : s.size ≤ 1000000) (o : Nat) (ho : o ≤ s.size) (w : World) :
    Calls Tryz.prog 11 #[.string s, .int .i64 o] w fun e w' => e = .returned (.tuple #[.int .i64 (lineS (s.data.toList.take o)), .int .i64 (colS (s.data.toList.take o))]) ∧ w' = w := by
  have hlen : s.data.toList.length = s.size := by simp
  have HL := Lib.hid hlen; clear hlen
  go_enter Tryz.func11, Tryz.ntmps11
  go_wp2
  go_loop [6, 7, 8] (fun a b i => ∃ k : Nat, k ≤ o ∧ i = .int .i64 k ∧ a = .int .i64 (lineS (s.data.toList.take k)) ∧ b = .int .i64 (colS (s.data.toList.take k))) (fun _ _ i => o - (intOf i).toNat)
  case atStart => exact ⟨0, Nat.zero_le _, rfl, rfl, rfl⟩
  case round =>
    obtain ⟨k, hk, rfl, hla, hlb⟩ := hrel
    have b1 := lineS_bd (s.data.toList.take k)
    have b2 := colS_bd (s.data.toList.take k)
    have b3 : (s.data.toList.take k).length ≤ k := by simp; omega
    obtain ⟨li, hli⟩ : ∃ li, li = lineS (s.data.toList.take k) := ⟨_, rfl⟩
    obtain ⟨co, hco⟩ : ∃ co, co = colS (s.data.toList.take k) := ⟨_, rfl⟩
    rw [← hli] at hla b1
    rw [← hco] at hlb b2
    have H1 := Lib.hid hli; clear hli
    have H2 := Lib.hid hco; clear hco
    subst hla hlb
    by_cases hlt : k < o
    · have hlt2 : k < s.size := by omega
      obtain ⟨c, hc⟩ : ∃ c, s.data.toList[k]? = some c := ⟨_, List.getElem?_eq_getElem (by simpa using hlt2)⟩
      have hix := hidx s k c hc
      have HC := Lib.hid hc; clear hc
      by_cases h10 : c = 10
      · subst h10
        go_wp2
        refine ⟨⟨k + 1, by omega, by go_num, ?_, ?_⟩, by simp [intOf]; omega⟩
        · rw [take_snoc _ k _ HC.out, lineS_snoc, if_pos rfl, ← H1.out]
        · rw [take_snoc _ k _ HC.out, colS_snoc, if_pos rfl]
      · have e10 : ((c.toNat : Int) == 10) = false := by
          rw [beq_eq_false_iff_ne]
          intro h
          exact h10 (UInt8.toNat_inj.1 (by rw [show (10 : UInt8).toNat = 10 from rfl]; omega))
        have H10 := Lib.hid h10; clear h10
        go_wp2
        refine ⟨⟨k + 1, by omega, by go_num, ?_, ?_⟩, by simp [intOf]; omega⟩
        · rw [take_snoc _ k _ HC.out, lineS_snoc, if_neg H10.out, ← H1.out]
        · rw [take_snoc _ k _ HC.out, colS_snoc, if_neg H10.out, ← H2.out]
    · have hko : k = o := by omega
      have HK := Lib.hid hko; clear hko
      go_wp2
      go_ret2
      refine ⟨?_, rfl⟩
      rw [← HK.out, ← H1.out, ← H2.out]
      rfl

end Go.Proofs.YtpbkidmdfibaoaaGreatDoor
