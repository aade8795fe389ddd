/-
  Layer 2: the statement TokenStays: for every two texts. Own work.
-/
import Derived.Test.YtldgjiohigiioaaLaws02d
import Derived.Test.YtldgjiohigiioaaStay2c
namespace Go.Proofs.Ytldgjiohigiioaa
set_option linter.unusedVariables false
set_option linter.unusedSimpArgs false
open Go.ChangeShapes Go.WideShapes Go.ChangeAt Go.RowKit
open Go.ChangeMaps (open_string shut_string)

theorem hn_0 {c : UInt8} {x y : List UInt8} (h : nameL (c :: x) = 0) : HN c x y := by
  intro n s h1
  rw [nameM, if_neg (by simp), if_pos h] at h1
  simp at h1
theorem hn_of {c : UInt8} {x y : List UInt8} {n : Nat} (hn : nameL (c :: x) = n) (h1 : 1 ≤ n) (hlt : n < (c :: x).length) (ht : (c :: y).take (n + 1) = (c :: x).take (n + 1)) : HN c x y := by
  intro nm s h2
  rw [nameM, if_neg (by simp), hn, if_neg (by omega)] at h2
  simp only [Rs.ok.injEq] at h2
  obtain ⟨i1, i2, i3⟩ := name_is hn h1
  have hl : n < (c :: y).length := by
    have := congrArg List.length ht
    rw [List.length_take, List.length_take] at this
    omega
  have hL : nameL (c :: y) = n := name_of h1 hl (fun a ha => i1 a (by rw [← get_take ht (by omega)]; exact ha)) (fun i a h3 h4 ha => i2 i a h3 h4 (by rw [← get_take ht (by omega)]; exact ha)) (fun a ha => i3 a (by rw [← get_take ht (by omega)]; exact ha))
  refine ⟨(c :: y).drop n, ?_⟩
  rw [nameM, if_neg (by simp), hL, if_neg (by omega), ← h2.1]
  have : (c :: y).take n = (c :: x).take n := by
    have := congrArg (List.take n) ht
    rw [List.take_take, List.take_take, Nat.min_eq_left (Nat.le_succ n)] at this
    exact this
  rw [this]
/-- the text up to m bytes behind the place of the error, and more -/
theorem stays_law {l more r : List UInt8} {e : Int} {c : UInt8} {x : List UInt8} {m : Nat} (h : allM l = .bad e r) (hr : r = c :: x) (hs : r <:+ l) (he : E3 e) (h33 : c ≠ 33) (h63 : c ≠ 63) (hl : l.length ≤ 2000) (hm : more.length ≤ 2000) (hm1 : 1 ≤ m) (hm2 : m ≤ r.length)
    (hn : HN c x ((x.take (m - 1)) ++ more)) :
    ∃ r', allM (l.take (l.length - r.length + m) ++ more) = .bad e r' ∧ (l.take (l.length - r.length + m) ++ more).length - r'.length = l.length - r.length ∧ preO (l.take (l.length - r.length + m) ++ more) r' = preO l r := by
  have hp := pre_app hs
  have hpl := pre_len hs
  have e1 : l.take (l.length - r.length + m) ++ more = preO l r ++ c :: (x.take (m - 1) ++ more) := by
    have : l.take (l.length - r.length + m) = preO l r ++ r.take m := by
      rw [← hpl]
      conv => lhs; arg 2; rw [← hp]
      simp [List.take_append]
      exact List.take_of_length_le (by omega)
    rw [this, hr]
    obtain ⟨k, rfl⟩ : ∃ k, m = k + 1 := ⟨m - 1, by omega⟩
    simp
  have e2 : (preO l r ++ c :: (x.take (m - 1) ++ more)).length - (c :: (x.take (m - 1) ++ more)).length = l.length - r.length := by
    rw [List.length_append, Nat.add_sub_cancel]; exact hpl
  refine ⟨c :: (x.take (m - 1) ++ more), ?_, ?_, ?_⟩
  · rw [e1]
    have hll := suf_len hs
    refine stays (x := x) hn h33 h63 (l := l) (by rw [← hr]; exact hp.symm) (by omega) ?_ he (by rw [← hr]; exact h)
    have hc : x.length + 1 = r.length := by rw [hr]; rfl
    simp only [List.length_append, List.length_cons, List.length_take, hpl]
    omega
  · rw [e1]; exact e2
  · rw [e1]
    unfold preO at *
    rw [e2]
    generalize hq : List.take (l.length - r.length) l = q at *
    rw [← hpl, List.take_left]
set_option maxRecDepth 100000 in
set_option maxHeartbeats 4000000 in
theorem walk_TokenStays (s : ByteArray) (hs : s.size ≤ 9223372036854775807) (s2 : ByteArray) (hs2 : s2.size ≤ 9223372036854775807) (w : World) :
    Calls Try.prog 7 #[.string s, .string s2] w fun e w' => e = .returned (.bool true) ∧ Below w.heap.size w w' := by
  have HLV := Lib.hid (fun w => lives02 w)
  go_enter Try.func7, Try.ntmps7
  go_wp2_with fail
  refine (cut02_any s hs w).mono ?_
  rintro e w1 ⟨l, rfl, hl, rfl⟩
  go_wp2_with fail
  refine (cut02_any s2 hs2 w1).mono ?_
  rintro e w1b ⟨more, rfl, hm, hw1⟩
  obtain rfl : w1 = w1b := hw1.symm
  clear hw1
  have HL := Lib.hid hl
  have HM := Lib.hid hm
  have HSZ := Lib.hid (size_str l)
  have HSM := Lib.hid (size_str more)
  go_upto_region 2 with fail
  go_wp2_with fail
  refine (all_two l (by omega) w1).mono ?_
  rintro e w2 ⟨hb2, ⟨c, r, hM, rfl⟩ | ⟨ts, r, a, cp, hM, rfl, hr⟩⟩
  case inr =>
    obtain ⟨w3, hw3⟩ : ∃ w3, w3 = w2.alloc (.cells #[.int .i64 0, .int .i64 0, .int .i64 0] 26) := ⟨_, rfl⟩
    have hb23 : Below w2.heap.size w2 w3 := by rw [hw3]; exact (Below.refl _ _).alloc (Nat.le_refl _) _
    have HB3 := Lib.hid (hb2.trans (hb23.mono hb2.size))
    have HW3 := Lib.hid hw3
    clear hw3 hb23 hb2 hM hr hl hm
    go_upto_region 3 with fail
    rw [← HW3.out]
    go_wp2_with fail
    refine (HLV.out _).mono ?_
    rintro e w7 ⟨rfl, hb7⟩
    have HB7 := Lib.hid (HB3.out.trans (hb7.mono HB3.out.size))
    clear hb7
    go_wp2
    go_ret
    exact ⟨rfl, HB7.out⟩
  case inl =>
    obtain ⟨o, ho⟩ : ∃ o, o = l.length - r.length := ⟨_, rfl⟩
    obtain ⟨li, hli⟩ : ∃ li, li = lineS (preO l r) := ⟨_, rfl⟩
    obtain ⟨co, hco⟩ : ∃ co, co = colS (preO l r) := ⟨_, rfl⟩
    rw [← ho, ← hli, ← hco]
    obtain ⟨w3, hw3⟩ : ∃ w3, w3 = w2.alloc (.cells #[.int .i64 (o : Int), .int .i64 li, .int .i64 co] 26) := ⟨_, rfl⟩
    have hb23 : Below w2.heap.size w2 w3 := by rw [hw3]; exact (Below.refl _ _).alloc (Nat.le_refl _) _
    have HB3 := Lib.hid (hb2.trans (hb23.mono hb2.size))
    have HP3 := Lib.hid (show w3.heap[w2.heap.size]? = some (.cells #[.int .i64 (o : Int), .int .i64 li, .int .i64 co] 26 (0, 0)) by rw [hw3]; exact heap_alloc_new w2 _)
    have HW3 := Lib.hid hw3
    have HMM := Lib.hid hM
    have HO := Lib.hid ho
    have HLI := Lib.hid hli
    have HCO := Lib.hid hco
    clear hw3 hb23 hb2 hM ho hli hco hl hm
    go_upto_region 3 with fail
    rw [← HW3.out]
    generalize w2.heap.size = PB at HP3 ⊢
    by_cases hE : E3 c
    case neg =>
      have n11 : (c != 11) = true := by rw [bne_iff_ne]; rintro rfl; exact hE (.inr (.inl rfl))
      have n15 : (c != 15) = true := by rw [bne_iff_ne]; rintro rfl; exact hE (.inr (.inr rfl))
      have n10 : (c != 10) = true := by rw [bne_iff_ne]; rintro rfl; exact hE (.inl rfl)
      clear hE
      go_wp2_with fail
      refine (HLV.out _).mono ?_
      rintro e w7 ⟨rfl, hb7⟩
      have HB7 := Lib.hid (HB3.out.trans (hb7.mono HB3.out.size))
      clear hb7
      go_wp2
      go_ret
      exact ⟨rfl, HB7.out⟩
    case pos =>
      go_cut [32] from 13 to 107 (fun t wx => t = .bool false ∧ wx = w3)
      case first =>
        rcases hE with rfl | rfl | rfl
        all_goals
          go_wp2_with fail
          go_meet
          exact ⟨rfl, rfl⟩
      case rest =>
        obtain ⟨rfl, hwc⟩ := hcut
        obtain rfl : w3 = wc := hwc.symm
        clear hwc
        have HE := Lib.hid hE
        have hrne := nf_all HMM.out hE
        obtain ⟨d, x, hr⟩ : ∃ d x, r = d :: x := by
          cases r with
          | nil => exact absurd rfl hrne
          | cons d x => exact ⟨d, x, rfl⟩
        have hsuf : r <:+ l := by
          have := allM_left l
          rw [HMM.out] at this
          exact this
        have HR := Lib.hid hr
        have HSUF := Lib.hid hsuf
        have hll := suf_len hsuf
        have hrl : r.length = x.length + 1 := by rw [hr]; rfl
        have HRL := Lib.hid hrl
        have HLL := Lib.hid hll
        have holt : o < (str l).size := by rw [HSZ.out, HO.out]; omega
        have hbd : ((str l).size : Int) ≤ 2000 := by rw [HSZ.out]; have := HL.out; omega
        have hoI : (o : Int) < ((str l).size : Int) := by omega
        have hi := fun w => bidx2 (str l) o d (by rw [toList_str, HO.out, hrl]; exact suf_at (by rw [← hr]; exact hsuf)) w
        have hx := ext_suf hsuf
        rw [← HO.out] at hx
        have z0 : w3.cell? ⟨PB, 0, none⟩ = some (.int .i64 (o : Int)) := by rw [cell_of_row w3 _ 0 _ _ (0, 0) HP3.out]; rfl
        clear hE hrne hr hsuf hll hrl
        go_upto_region 7 with fail
        by_cases h33 : d = 33
        · have hq : ((d.toNat : Int) == 33) = true := by rw [h33]; rfl
          clear h33
          go_wp2_with fail
          refine (HLV.out _).mono ?_
          rintro e w7 ⟨rfl, hb7⟩
          have HB7 := Lib.hid (HB3.out.trans (hb7.mono HB3.out.size))
          clear hb7
          go_wp2
          go_ret
          exact ⟨rfl, HB7.out⟩
        have hq33 : ((d.toNat : Int) == 33) = false := u8_ne2 (d := 33) h33
        by_cases h63 : d = 63
        · have hq : ((d.toNat : Int) == 63) = true := by rw [h63]; rfl
          clear h63 h33
          go_wp2_with fail
          refine (HLV.out _).mono ?_
          rintro e w7 ⟨rfl, hb7⟩
          have HB7 := Lib.hid (HB3.out.trans (hb7.mono HB3.out.size))
          clear hb7
          go_wp2
          go_ret
          exact ⟨rfl, HB7.out⟩
        have hq63 : ((d.toNat : Int) == 63) = false := u8_ne2 (d := 63) h63
        have H33 := Lib.hid h33
        have H63 := Lib.hid h63
        have HN := Lib.hid (fun w => refName_any (str r) (by rw [size_str]; have := HLL.out; have := HL.out; omega) w)
        have hle : (o : Int) ≤ ((str l).size : Int) := by omega
        have hle2 : o ≤ (str l).size := by omega
        clear h33 h63
        go_upto_region 9 with fail
        clear hi hq33 hq63
        go_wp2_with fail
        refine (HN.out _).mono ?_
        rintro e w4 ⟨n, rfl, hn4, hw4⟩
        obtain rfl : w3 = w4 := hw4.symm
        have hnn := name_one hn4 (nameL_is r)
        clear hn4 hw4
        have HNL := Lib.hid hnn.symm
        have hnle := nameL_le r
        rw [← hnn] at hnle
        have hon : o + n ≤ (str l).size := by rw [HSZ.out, HO.out]; have := HLL.out; omega
        clear hnn hx hle hle2
        by_cases h0 : n = 0
        · subst h0
          have hmax : max (1 : Int) ((0 : Nat) : Int) = 1 := by decide
          have hnl := HNL.out
          clear hnle hon
          go_upto_region 15 with fail
          obtain ⟨r', hM2, hl2, hp2⟩ := stays_law (m := 1) (more := more) HMM.out HR.out HSUF.out HE.out H33.out H63.out HL.out HM.out (by omega) (by have := HRL.out; omega) (hn_0 (by rw [← HR.out]; exact hnl))
          rw [← HO.out] at hM2 hl2 hp2
          have hlen2 : (l.take (o + 1) ++ more).length ≤ 1000000 := by rw [List.length_append, List.length_take]; have := HM.out; have := HL.out; omega
          have HAB := Lib.hid (fun w => all_bad hM2 (o := (o : Int)) (p := li) (q := co) (by rw [hl2]) (by rw [hp2, HLI.out]) (by rw [hp2, HCO.out]) hlen2 w)
          have HCAT := Lib.hid (show (str l).extract 0 (o + 1) ++ str more = str (l.take (o + 1) ++ more) by rw [ext_str, toList_str, List.drop_zero, app_str])
          have hmI : ((str more).size : Int) ≤ 2000 := by rw [HSM.out]; have := HM.out; omega
          clear hM2 hl2 hp2 hlen2
          go_wp2_with fail
          rw [show ((o : Int) + max (1 : Int) 0).toNat = o + 1 by omega, HCAT.out]
          refine (HAB.out _).mono ?_
          rintro e w5 ⟨rfl, hb5⟩
          obtain ⟨w6, hw6⟩ : ∃ w6, w6 = w5.alloc (.cells #[.int .i64 (o : Int), .int .i64 li, .int .i64 co] 26) := ⟨_, rfl⟩
          have hb56 : Below w5.heap.size w5 w6 := by rw [hw6]; exact (Below.refl _ _).alloc (Nat.le_refl _) _
          have hb36 := hb5.trans (hb56.mono hb5.size)
          have HB6 := Lib.hid (HB3.out.trans (hb36.mono HB3.out.size))
          have HQ6 := Lib.hid (show w6.heap[w5.heap.size]? = some (.cells #[.int .i64 (o : Int), .int .i64 li, .int .i64 co] 26 (0, 0)) by rw [hw6]; exact heap_alloc_new w5 _)
          have HP6 := Lib.hid ((hb36.block PB (Array.getElem?_eq_some_iff.1 HP3.out).1).trans HP3.out)
          have HW6 := Lib.hid hw6
          clear hw6 hb5 hb56 hb36 z0
          go_upto_region 16 with fail
          rw [← HW6.out]
          generalize w5.heap.size = QB at HQ6 ⊢
          have y0 : w6.cell? ⟨PB, 0, none⟩ = some (.int .i64 (o : Int)) := by rw [cell_of_row w6 _ 0 _ _ (0, 0) HP6.out]; rfl
          have y1 : w6.cell? ⟨PB, 1, none⟩ = some (.int .i64 li) := by rw [cell_of_row w6 _ 1 _ _ (0, 0) HP6.out]; rfl
          have y2 : w6.cell? ⟨PB, 2, none⟩ = some (.int .i64 co) := by rw [cell_of_row w6 _ 2 _ _ (0, 0) HP6.out]; rfl
          have x0 : w6.cell? ⟨QB, 0, none⟩ = some (.int .i64 (o : Int)) := by rw [cell_of_row w6 _ 0 _ _ (0, 0) HQ6.out]; rfl
          have x1 : w6.cell? ⟨QB, 1, none⟩ = some (.int .i64 li) := by rw [cell_of_row w6 _ 1 _ _ (0, 0) HQ6.out]; rfl
          have x2 : w6.cell? ⟨QB, 2, none⟩ = some (.int .i64 co) := by rw [cell_of_row w6 _ 2 _ _ (0, 0) HQ6.out]; rfl
          have heqp := fun w => eq_pl (o : Int) li co w
          have hcc : (c == c) = true := by simp
          go_wp2_with fail
          refine (HLV.out _).mono ?_
          rintro e w7 ⟨rfl, hb7⟩
          have HB7 := Lib.hid (HB6.out.trans (hb7.mono HB6.out.size))
          clear hb7
          go_wp2
          go_ret
          exact ⟨rfl, HB7.out⟩
        · have hmax : max (1 : Int) (n : Int) = (n : Int) := by omega
          have hn0 : (0 : Int) < (n : Int) := by omega
          have hnI : (n : Int) ≤ 2000 := by omega
          by_cases h1 : o + n < (str l).size
          case neg =>
            have heq : o + n = (str l).size := by omega
            have hge : ¬ ((o : Int) + (n : Int) < ((str l).size : Int)) := by omega
            have heqb : (((o : Int) + (n : Int)) == ((str l).size : Int)) = true := by rw [beq_iff_eq]; omega
            clear h1 heq h0 hnle hon
            go_wp2_with fail
            refine (HLV.out _).mono ?_
            rintro e w7 ⟨rfl, hb7⟩
            have HB7 := Lib.hid (HB3.out.trans (hb7.mono HB3.out.size))
            clear hb7
            go_wp2
            go_ret
            exact ⟨rfl, HB7.out⟩
          case pos =>
            have hlt1 : (o : Int) + (n : Int) < ((str l).size : Int) := by omega
            by_cases h2 : o + n + 1 = (str l).size
            · have heqb : (((o : Int) + (n : Int) + 1) == ((str l).size : Int)) = true := by rw [beq_iff_eq]; omega
              clear h1 h2 h0 hnle hon
              go_wp2_with fail
              refine (HLV.out _).mono ?_
              rintro e w7 ⟨rfl, hb7⟩
              have HB7 := Lib.hid (HB3.out.trans (hb7.mono HB3.out.size))
              clear hb7
              go_wp2
              go_ret
              exact ⟨rfl, HB7.out⟩
            · have hneb : (((o : Int) + (n : Int) + 1) == ((str l).size : Int)) = false := by rw [beq_eq_false_iff_ne]; omega
              have HLT := Lib.hid (show n + 1 < r.length by have h3 := HSZ.out; have h4 := HO.out; have h5 := HLL.out; omega)
              have hleq : o + (n + 1) ≤ (str l).size := by omega
              clear h1 h2 hnle hon
              go_upto_region 15 with fail
              obtain ⟨r', hM2, hl2, hp2⟩ := stays_law (m := (n + 1)) (more := more) HMM.out HR.out HSUF.out HE.out H33.out H63.out HL.out HM.out (by omega) (by have := HLT.out; omega) (hn_of (n := n) (by rw [← HR.out]; exact HNL.out) (by omega) (by have := HRL.out; have := HLT.out; simp only [List.length_cons]; omega) (by have h6 := HRL.out; have h7 := HLT.out; rw [List.take_succ_cons, List.take_succ_cons, Nat.add_sub_cancel, List.take_append_of_le_length (by rw [List.length_take]; omega), List.take_take, Nat.min_self]))
              rw [← HO.out] at hM2 hl2 hp2
              have hlen2 : (l.take (o + (n + 1)) ++ more).length ≤ 1000000 := by rw [List.length_append, List.length_take]; have := HM.out; have := HL.out; omega
              have HAB := Lib.hid (fun w => all_bad hM2 (o := (o : Int)) (p := li) (q := co) (by rw [hl2]) (by rw [hp2, HLI.out]) (by rw [hp2, HCO.out]) hlen2 w)
              have HCAT := Lib.hid (show (str l).extract 0 (o + (n + 1)) ++ str more = str (l.take (o + (n + 1)) ++ more) by rw [ext_str, toList_str, List.drop_zero, app_str])
              have hmI : ((str more).size : Int) ≤ 2000 := by rw [HSM.out]; have := HM.out; omega
              clear hM2 hl2 hp2 hlen2
              go_wp2_with fail
              rw [show o + n + 1 = o + (n + 1) from rfl, HCAT.out]
              refine (HAB.out _).mono ?_
              rintro e w5 ⟨rfl, hb5⟩
              obtain ⟨w6, hw6⟩ : ∃ w6, w6 = w5.alloc (.cells #[.int .i64 (o : Int), .int .i64 li, .int .i64 co] 26) := ⟨_, rfl⟩
              have hb56 : Below w5.heap.size w5 w6 := by rw [hw6]; exact (Below.refl _ _).alloc (Nat.le_refl _) _
              have hb36 := hb5.trans (hb56.mono hb5.size)
              have HB6 := Lib.hid (HB3.out.trans (hb36.mono HB3.out.size))
              have HQ6 := Lib.hid (show w6.heap[w5.heap.size]? = some (.cells #[.int .i64 (o : Int), .int .i64 li, .int .i64 co] 26 (0, 0)) by rw [hw6]; exact heap_alloc_new w5 _)
              have HP6 := Lib.hid ((hb36.block PB (Array.getElem?_eq_some_iff.1 HP3.out).1).trans HP3.out)
              have HW6 := Lib.hid hw6
              clear hw6 hb5 hb56 hb36 z0
              go_upto_region 16 with fail
              rw [← HW6.out]
              generalize w5.heap.size = QB at HQ6 ⊢
              have y0 : w6.cell? ⟨PB, 0, none⟩ = some (.int .i64 (o : Int)) := by rw [cell_of_row w6 _ 0 _ _ (0, 0) HP6.out]; rfl
              have y1 : w6.cell? ⟨PB, 1, none⟩ = some (.int .i64 li) := by rw [cell_of_row w6 _ 1 _ _ (0, 0) HP6.out]; rfl
              have y2 : w6.cell? ⟨PB, 2, none⟩ = some (.int .i64 co) := by rw [cell_of_row w6 _ 2 _ _ (0, 0) HP6.out]; rfl
              have x0 : w6.cell? ⟨QB, 0, none⟩ = some (.int .i64 (o : Int)) := by rw [cell_of_row w6 _ 0 _ _ (0, 0) HQ6.out]; rfl
              have x1 : w6.cell? ⟨QB, 1, none⟩ = some (.int .i64 li) := by rw [cell_of_row w6 _ 1 _ _ (0, 0) HQ6.out]; rfl
              have x2 : w6.cell? ⟨QB, 2, none⟩ = some (.int .i64 co) := by rw [cell_of_row w6 _ 2 _ _ (0, 0) HQ6.out]; rfl
              have heqp := fun w => eq_pl (o : Int) li co w
              have hcc : (c == c) = true := by simp
              go_wp2_with fail
              refine (HLV.out _).mono ?_
              rintro e w7 ⟨rfl, hb7⟩
              have HB7 := Lib.hid (HB6.out.trans (hb7.mono HB6.out.size))
              clear hb7
              go_wp2
              go_ret
              exact ⟨rfl, HB7.out⟩

set_option maxRecDepth 100000 in
theorem lifted_TokenStays (os : Os) (started : os.Started) (H : Type) (enc : TypeId × Value → H) :
    ReturnsInHanded {} Try.checked os 7 .any (Rows.tokenStaysSpec.pre6 enc Try.prog Try.f7 Rows.tokenStaysRow.domain false) (Rows.tokenStaysSpec.post enc Try.prog Try.f7 false true false false) := by
  refine returnsInHanded_of_change (C := Try.checked) own_knob started (by kernel_rfl) Try.func7
    (ChangeSpec.witness6 (enc := enc) (C := Try.checked) false ⟨#[], #[.string .empty, .string .empty], []⟩ 8 (by kernel_rfl) (by kernel_rfl) (by kernel_rfl) (by kernel_rfl)) ?_
  intro W base args ds gs before hval0 hW _ _
  have hval : ∀ (j : Nat) t v, Try.f7.params[j]? = some t → args[j]? = some v → Value.okWide Try.prog W .any base t v := hval0
  have hW' := hW
  obtain ⟨p, q, hA0, hV, rfl, _, _⟩ := hW
  have hA : DataW.TrodAll enc Try.prog W 0 (fun _ => true) true Try.f7.params.toList args.toList ds p := hA0
  rw [Try.params7] at hA hval
  obtain ⟨v0, vs0, d0, ds0, p0, q0, hargs, rfl, rfl, h0, r0⟩ := trodAll_cons hA
  obtain ⟨v1, vs1, d1, ds1, p1, q1, rfl, rfl, rfl, h1, r1⟩ := trodAll_cons r0
  obtain ⟨rfl, rfl, rfl⟩ := trodAll_nil r1
  obtain rfl : args = #[v0, v1] := by cases args; simp_all
  obtain ⟨rfl, rfl⟩ := trodVars_none hV
  obtain ⟨a0, rfl, rfl, rfl, w0⟩ := open_string Try.underlying9 (hval 0 9 v0 rfl rfl) h0
  obtain ⟨a1, rfl, rfl, rfl, w1⟩ := open_string Try.underlying9 (hval 1 9 v1 rfl rfl) h1
  clear hA0 hval0
  refine (walk_TokenStays a0 (by unfold maxLen at w0; exact w0) a1 (by unfold maxLen at w1; exact w1) W).mono fun e W' ⟨he, hb⟩ => ?_
  subst he
  exact ⟨_, rfl, law_post (by kernel_rfl) rfl rfl rfl hW' hb⟩

/-- the statement of TokenStays -/
theorem proved_TokenStays : Rows.TokenStaysSaid :=
  OpenClaim.holds_of_wide 7 Try.f7 rfl rfl rfl rfl rfl rfl rfl ⟨rfl, rfl, rfl, rfl, rfl⟩ rfl rfl rfl rfl rfl (by kernel_rfl) Try.func7 (by kernel_rfl)
    (of_decide_eq_true (by kernel_rfl)) (by unfold Func.isWrapper; first | (rw [if_pos (by decide +kernel)]; kernel_rfl) | (rw [if_neg (by decide +kernel)]; exact ⟨rfl, rfl⟩))
    (fun os started H enc _ => lifted_TokenStays os started H enc)
end Go.Proofs.Ytldgjiohigiioaa
