/-
  Layer 21: the statement WeighNew: no clause has a variable that is neither a literal's nor one of the further ones, and each of these stands in some clause. For every input, with no condition. Own work.
-/
import Derived.Test.YtfgoalgfpcalgaaNewMath
namespace Go.Proofs.Ytfgoalgfpcalgaa
set_option linter.unusedVariables false
set_option linter.unusedSimpArgs false
open Go.ChangeShapes Go.WideShapes Go.ChangeAt Go.RowKit

theorem bool_info : (Try.prog.info? 4).map (fun i => (i.zero, i.size, i.bytes)) = some (some (.bool false), 1, 1) := by kernel_rfl
def metB (L : List Int) (m : Nat) : Bool := L.any fun n => max n (-n) == 2000 + (m : Int)
def metV (M : Nat) (L : List Int) : List Value := (List.range M).map fun (m : Nat) => .bool (metB L m)
theorem metV_nil (M : Nat) : (madeCells (Value.bool false).cells (M * 1)).toList = metV M [] := by
  apply List.ext_getElem
  · simp [madeCells, metV, Value.cells]
  · intro i h1 h2
    simp [madeCells, metV, metB, Value.cells, Nat.mod_one]
theorem metV_get (M : Nat) (L : List Int) (j : Nat) (h : j < M) : (metV M L)[j]? = some (.bool (metB L j)) := by
  unfold metV
  rw [List.getElem?_map, List.getElem?_range h]; rfl
theorem metV_set (M : Nat) (L : List Int) (n : Int) (q : Nat) (hq : q < M) (hv : max n (-n) = 2000 + (q : Int)) : (metV M L).set q (.bool true) = metV M (L ++ [n]) := by
  apply List.ext_getElem?
  intro j
  by_cases hj : j < M
  · rw [metV_get _ _ _ hj]
    by_cases e : q = j
    · subst e
      rw [List.getElem?_set_self (by unfold metV; simpa using hq)]
      congr 2
      unfold metB
      simp [hv]
    · rw [List.getElem?_set_ne e, metV_get _ _ _ hj]
      congr 2
      unfold metB
      have : (max n (-n) == 2000 + (j : Int)) = false := by apply beq_false_of_ne; omega
      simp [this]
  · rw [List.getElem?_eq_none (by unfold metV; simp; omega), List.getElem?_eq_none (by unfold metV; simp; omega)]
theorem metV_low (M : Nat) (L : List Int) (n : Int) (hv : max n (-n) < 2000) : metV M (L ++ [n]) = metV M L := by
  unfold metV
  apply List.map_congr_left
  intro m _
  congr 1
  unfold metB
  have : (max n (-n) == 2000 + (m : Int)) = false := by apply beq_false_of_ne; omega
  simp [this]
theorem RowsAt.reads {w : World} {lo : Nat} {v : Value} {cs : List (List Int)} (h : RowsAt w lo v cs) : ∃ a cap, v = .slice a cs.length cap ∧ cs.length ≤ cap ∧ cap ≤ 9223372036854775807 ∧
    ∀ (j : Nat) c, cs[j]? = some c → ∃ g b bc, a = some ⟨g, 0, none⟩ ∧ g < w.heap.size ∧ w.cell? ⟨g, j, none⟩ = some (.slice (some ⟨b, 0, none⟩) c.length bc) ∧ b < w.heap.size ∧ c.length ≤ bc ∧ bc ≤ 9223372036854775807 ∧ ∀ (i : Nat) n, c[i]? = some n → w.cell? ⟨b, i, none⟩ = some (.int .i64 n) := by
  by_cases h0 : cs.length = 0
  · obtain ⟨rows, ho, -⟩ := h
    rcases ho.2 with ⟨h, h'⟩ | ⟨g, cap, cur, h, _, hg, hn, hcm, _, _⟩
    · exact ⟨none, 0, by rw [h, h'], by omega, by omega, fun j c hj => by have := (List.getElem?_eq_some_iff.1 hj).1; omega⟩
    · exact ⟨_, cap, h, hn, by unfold maxLen at hcm; exact hcm, fun j c hj => by have := (List.getElem?_eq_some_iff.1 hj).1; omega⟩
  · obtain ⟨g, cap, hv, a1, a2, a3, a4⟩ := h.at (by omega)
    refine ⟨_, cap, hv, a1, a2, fun j c hj => ?_⟩
    obtain ⟨b, bc, p⟩ := a4 j c hj
    exact ⟨g, b, bc, rfl, a3, p⟩
def NewPost (xs : List Int) (w : World) (e : Ending) (w' : World) : Prop :=
  ∃ (v : Value) (cs : List (List Int)) (M : Nat), e = .returned (.tuple #[v, .int .i64 (2000 + (M : Int))]) ∧ M ≤ 2000 ∧ RowsAt w' w.heap.size v cs ∧ Below w.heap.size w w' ∧ cs.length ≤ 1000000 ∧ (∀ (j : Nat) c, cs[j]? = some c → c.length ≤ 1000000) ∧
    (∀ c ∈ cs, ∀ n ∈ c, Fine xs 2000 (2000 + (M : Int)) n) ∧ (∀ m : Nat, m < M → ∃ c ∈ cs, ∃ n ∈ c, n = 2000 + (m : Int) ∨ n = -(2000 + (m : Int)))
theorem AtMost_new (xv : Value) (xs : List Int) (K : Int) (hx : xs.length ≤ 40) (hbd : ∀ (j : Nat) (n : Int), xs[j]? = some n → -1000 ≤ n ∧ n ≤ 1000 ∧ n ≠ 0) (w : World) (hs : SlOf w iV xv xs) :
    Calls Try.prog 8 #[xv, .int .i64 K, .int .i64 2000] w (NewPost xs w) := by
  refine (AtMost_any xv xs K 2000 (by omega) (big_bd hbd) (by omega) (by omega) w hs).mono fun e w' ⟨v, he, hr, hb⟩ => ?_
  have ha : 2000 ≤ aft xs K 2000 ∧ aft xs K 2000 ≤ 4000 := by
    unfold aft
    split
    · omega
    · have h1 : 0 ≤ ((xs.length : Int) - 1) * K := Int.mul_nonneg (by omega) (by omega)
      have h2 : ((xs.length : Int) - 1) * K ≤ 40 * 40 := Int.mul_le_mul (by omega) (by omega) (by omega) (by decide)
      unfold sv
      omega
  have hM : aft xs K 2000 = 2000 + (((aft xs K 2000) - 2000).toNat : Int) := by omega
  refine ⟨v, clsL xs K 2000, ((aft xs K 2000) - 2000).toNat, by rw [← hM]; exact he, by omega, hr, hb, clsL_len _ _ _ (by omega), clsL_row _ _ _ (by omega), ?_, fun m hm => ?_⟩
  · rw [← hM]; exact cls_fine xs K 2000 (by omega)
  · exact cls_all xs K 2000 m (by omega) (by omega)
def isB (V : Int) (ys : List Int) : Bool := ys.any fun y => V == max y (-y)
theorem isB_snoc (V : Int) (xs : List Int) (p : Nat) (y : Int) (h : xs[p]? = some y) : isB V (xs.take (p + 1)) = (isB V (xs.take p) || (V == max y (-y))) := by
  unfold isB
  rw [take_snoc _ p y h, List.any_append]; simp
def MetAt (M B : Nat) (L : List Int) (w2 wr : World) : Prop := wr.ownsRow B 4 1 (.slice (some ⟨B, 0, none⟩) M M) M (metV M L) ∧ Below B w2 wr
set_option maxRecDepth 100000 in
set_option maxHeartbeats 4000000 in
theorem new_at (lv : Value) (l : List Int) (k K : Int) (hK : (k < -3 ∧ K = -3) ∨ (50 < k ∧ K = 50) ∨ (-3 ≤ k ∧ k ≤ 50 ∧ K = k)) (w : World) (hl : Reads w iV lv l) (hwf : ∀ n ∈ l, -9223372036854775808 ≤ n ∧ n ≤ 9223372036854775807) (hk : -9223372036854775808 ≤ k ∧ k ≤ 9223372036854775807) :
    Calls Try.prog 6 #[lv, .int .i64 k] w fun e w' => e = .returned (.bool true) ∧ Below w.heap.size w w' := by
  have h1 := own_any lv l 40 (by omega) w hl hwf
  have H1 := Lib.hid h1; clear h1 hwf hl
  obtain ⟨hk1, hk2⟩ := hk
  have hbd0 := ownL_bd l 40
  have hlen0 := ownL_len l 40
  unfold OwnPost at H1
  generalize ownL l 40 = xs at hbd0 hlen0 H1
  have HBD := Lib.hid hbd0; clear hbd0
  have hxb : (xs.length : Int) ≤ 40 := by omega
  obtain ⟨i0, hi, hz0, hz1, hz2⟩ := info_parts bool_info
  rcases hK with ⟨h, rfl⟩ | ⟨h, rfl⟩ | ⟨h, h', rfl⟩
  all_goals
    go_enter Try.func6, Try.ntmps6
    go_wp2_with fail
    refine H1.out.mono ?_
    rintro e w1 ⟨v, rfl, hs, hb⟩
    have HS := Lib.hid hs
    have HB := Lib.hid hb; clear hb
    obtain ⟨xa, xcap, rfl, hx1, hx2, hxc⟩ := hs
    clear hxc
    go_wp2_with fail
    all_goals first | (exfalso; omega) | skip
    all_goals
      refine (AtMost_new _ xs _ (by omega) HBD.out _ HS.out).mono ?_
      rintro e w2 ⟨v1, cs, M, rfl, hM, hr1, hb1, hcl, hcr, hfine, hall⟩
      have HS2 := Lib.hid (HS.out.below hb1 (Nat.le_refl _))
      have HB2 := Lib.hid (HB.out.trans (hb1.mono HB.out.size))
      have HFINE := Lib.hid hfine
      have HALL := Lib.hid hall
      have HCR := Lib.hid hcr
      obtain ⟨ra, rcap, rfl, hr2, hr3, hrc⟩ := hr1.reads
      have HRC := Lib.hid hrc
      obtain ⟨_, _, hvx, _, _, hxc2⟩ := HS2.out
      cases hvx
      have HXC := Lib.hid hxc2
      have hcb : (cs.length : Int) ≤ 1000000 := by omega
      clear hb1 hfine hall hcr hrc hxc2 hr1
      go_wp2_with (at_make; refine wpList_make_full _ rfl _ _ 31 rfl w2.heap.size 4 i0 (.bool false) 1 Try.underlying31 hi hz0 hz1 .i64 .i64 _ _ M rfl rfl (by omega) (by omega) (by rw [hz2]; omega) (by unfold maxLen; omega) (Nat.le_refl _) ?_; intro w3 hown hgrow)
      have hb3 : Below w2.heap.size w2 w3 := (Below.refl _ _).grown hgrow (Nat.le_refl _) (fun k h => by cases h)
      rw [metV_nil] at hown
      have hm3 : MetAt M w2.heap.size [] w2 w3 := ⟨hown, hb3⟩
      have HM3 := Lib.hid hm3
      clear hown hb3 hgrow hm3
      go_loopw [41] (fun i wr => ∃ j : Nat, j ≤ cs.length ∧ i = .int .i64 j ∧ MetAt M w2.heap.size (cs.take j).flatten w2 wr) (fun i _ => cs.length - (intOf i).toNat)
      case atStart => exact ⟨0, by omega, rfl, HM3.out⟩
      case round =>
        obtain ⟨j, hj, rfl, hmet⟩ := hrel
        by_cases hlt : j < cs.length
        · obtain ⟨c, hcj⟩ : ∃ c, cs[j]? = some c := ⟨_, List.getElem?_eq_getElem hlt⟩
          obtain ⟨g, b, bc, rfl, p1, p2, p3, p4, p5, p6⟩ := HRC.out j c hcj
          have hcl2 := HCR.out j c hcj
          have hP := (hmet.2.cell (p := ⟨g, j, none⟩) p1).trans p2
          have hL : (cs.take (j + 1)).flatten = (cs.take j).flatten ++ c := by rw [take_snoc _ j c hcj, List.flatten_append]; simp
          have HL := Lib.hid hL
          have HP6 := Lib.hid p6
          have HCJ := Lib.hid hcj
          have HMET := Lib.hid hmet
          clear hL p6 hcj hmet p2
          generalize (cs.take j).flatten = L at HL HMET
          go_wp2_with fail
          go_loopw [47] (fun i wr2 => ∃ q : Nat, q ≤ c.length ∧ i = .int .i64 q ∧ MetAt M w2.heap.size (L ++ c.take q) w2 wr2) (fun i _ => c.length - (intOf i).toNat)
          case atStart => exact ⟨0, by omega, rfl, by simpa using HMET.out⟩
          case round =>
            obtain ⟨q, hq, rfl, hmet2⟩ := hrel
            by_cases hlt2 : q < c.length
            · obtain ⟨n, hn⟩ : ∃ n, c[q]? = some n := ⟨_, List.getElem?_eq_getElem hlt2⟩
              have hcn := (hmet2.2.cell (p := ⟨b, q, none⟩) p3).trans (HP6.out q n hn)
              have hf := HFINE.out c (List.mem_of_getElem? HCJ.out) n (List.mem_of_getElem? hn)
              have hys : ∀ y ∈ xs, -1000 ≤ y ∧ y ≤ 1000 := fun y hy => by
                obtain ⟨i, hi⟩ := List.getElem?_of_mem hy
                have := HBD.out i y hi
                omega
              have hnb : -4000 ≤ n ∧ n ≤ 4000 := by
                rcases hf with h | ⟨y, hy, h⟩
                · omega
                · have := hys y hy; omega
              obtain ⟨n1, n2⟩ := hnb
              have hsnoc : c.take (q + 1) = c.take q ++ [n] := take_snoc _ q n hn
              have HSN := Lib.hid hsnoc
              have HMET2 := Lib.hid hmet2
              have hxcell : ∀ (p : Nat) y, xs[p]? = some y → ∃ b' off', xa = some ⟨b', off', none⟩ ∧ wr.cell? ⟨b', off' + p, none⟩ = some (.int .i64 y) := fun p y hy => by
                obtain ⟨b', off', h1, h2, h3⟩ := HXC.out p y hy
                exact ⟨b', off', h1, (hmet2.2.cell (p := ⟨b', off' + p, none⟩) h2).trans h3⟩
              have HXW := Lib.hid hxcell
              have hcl3 : (c.length : Int) ≤ 1000000 := by omega
              clear hsnoc hn hxcell
              by_cases hbig : 2000 ≤ max n (-n)
              · have hlow : max n (-n) < 2000 + (M : Int) := by
                  rcases hf with h | ⟨y, hy, h⟩
                  · exact h.2
                  · have := hys y hy; omega
                clear hf hys
                rcases (show (0 ≤ n ∧ max n (-n) = n) ∨ (n < 0 ∧ max n (-n) = -n) by omega) with ⟨s1, s2⟩ | ⟨s1, s2⟩
                · rw [s2] at hbig hlow
                  have HS2' := Lib.hid s2
                  clear s2
                  have z0 := (hmet2.1.cellAt (n.toNat - 2000) (by omega)).trans (metV_get M _ (n.toNat - 2000) (by omega))
                  have z1 := (hmet2.1.cellAt ((n - 2000).toNat) (by omega)).trans (metV_get M _ ((n - 2000).toNat) (by omega))
                  have zf := fun o => hmet2.1.frozenAt o
                  have hst := hmet2.1.stored (n.toNat - 2000) (.bool true)
                  rw [metV_set M _ n (n.toNat - 2000) (by omega) (by rw [HS2'.out]; omega)] at hst
                  have heq : (n - 2000).toNat = n.toNat - 2000 := by omega
                  have HEQ := Lib.hid heq
                  have HST := Lib.hid hst
                  clear hst hmet2 heq
                  go_wp2_with fail
                  all_goals
                    go_loop [14, 64] (fun is i => ∃ p : Nat, p ≤ xs.length ∧ i = .int .i64 p ∧ is = .bool true) (fun _ i => xs.length - (intOf i).toNat)
                    case atStart => exact ⟨0, by omega, rfl, rfl⟩
                    case round =>
                      obtain ⟨p, hp, rfl, rfl⟩ := hrel
                      by_cases hlt3 : p < xs.length
                      · obtain ⟨y, hy⟩ : ∃ y, xs[p]? = some y := ⟨_, List.getElem?_eq_getElem hlt3⟩
                        obtain ⟨b', off', rfl, hyc⟩ := HXW.out p y hy
                        clear hy
                        go_wp2
                        exact ⟨⟨p + 1, by omega, by go_num, rfl⟩, by simp [intOf]; omega⟩
                      · have hpl : (xs.length : Int) ≤ p := by omega
                        go_wp2
                        go_roundw
                        case rel =>
                          refine ⟨q + 1, by omega, by go_num, ?_⟩
                          rw [HSN.out, ← List.append_assoc]
                          first
                            | exact ⟨HST.out.1, HMET2.out.2.setCell (p := ⟨w2.heap.size, n.toNat - 2000, none⟩) (Nat.le_refl _) _⟩
                            | (rw [HEQ.out]; exact ⟨HST.out.1, HMET2.out.2.setCell (p := ⟨w2.heap.size, n.toNat - 2000, none⟩) (Nat.le_refl _) _⟩)
                        case measure => simp [intOf]; omega
                · rw [s2] at hbig hlow
                  have HS2' := Lib.hid s2
                  clear s2
                  have z0 := (hmet2.1.cellAt ((-n).toNat - 2000) (by omega)).trans (metV_get M _ ((-n).toNat - 2000) (by omega))
                  have z1 := (hmet2.1.cellAt ((-n - 2000).toNat) (by omega)).trans (metV_get M _ ((-n - 2000).toNat) (by omega))
                  have zf := fun o => hmet2.1.frozenAt o
                  have hst := hmet2.1.stored ((-n).toNat - 2000) (.bool true)
                  rw [metV_set M _ n ((-n).toNat - 2000) (by omega) (by rw [HS2'.out]; omega)] at hst
                  have heq : (-n - 2000).toNat = (-n).toNat - 2000 := by omega
                  have HEQ := Lib.hid heq
                  have HST := Lib.hid hst
                  clear hst hmet2 heq
                  go_wp2_with fail
                  all_goals
                    go_loop [14, 64] (fun is i => ∃ p : Nat, p ≤ xs.length ∧ i = .int .i64 p ∧ is = .bool true) (fun _ i => xs.length - (intOf i).toNat)
                    case atStart => exact ⟨0, by omega, rfl, rfl⟩
                    case round =>
                      obtain ⟨p, hp, rfl, rfl⟩ := hrel
                      by_cases hlt3 : p < xs.length
                      · obtain ⟨y, hy⟩ : ∃ y, xs[p]? = some y := ⟨_, List.getElem?_eq_getElem hlt3⟩
                        obtain ⟨b', off', rfl, hyc⟩ := HXW.out p y hy
                        clear hy
                        go_wp2
                        exact ⟨⟨p + 1, by omega, by go_num, rfl⟩, by simp [intOf]; omega⟩
                      · have hpl : (xs.length : Int) ≤ p := by omega
                        go_wp2
                        go_roundw
                        case rel =>
                          refine ⟨q + 1, by omega, by go_num, ?_⟩
                          rw [HSN.out, ← List.append_assoc]
                          first
                            | exact ⟨HST.out.1, HMET2.out.2.setCell (p := ⟨w2.heap.size, (-n).toNat - 2000, none⟩) (Nat.le_refl _) _⟩
                            | (rw [HEQ.out]; exact ⟨HST.out.1, HMET2.out.2.setCell (p := ⟨w2.heap.size, (-n).toNat - 2000, none⟩) (Nat.le_refl _) _⟩)
                        case measure => simp [intOf]; omega
              · have hlow : max n (-n) < 2000 := by omega
                have hex : isB (max n (-n)) xs = true := by
                  rcases hf with h | ⟨y, hy, h⟩
                  · omega
                  · unfold isB
                    exact List.any_eq_true.2 ⟨y, hy, by simp [h]⟩
                have hml := metV_low M (L ++ c.take q) n hlow
                have HML := Lib.hid hml
                clear hf hml
                rcases (show (0 ≤ n ∧ max n (-n) = n) ∨ (n < 0 ∧ max n (-n) = -n) by omega) with ⟨s1, s2⟩ | ⟨s1, s2⟩
                · rw [s2] at hlow hbig hex
                  have HEX := Lib.hid hex
                  clear s2 hex hmet2
                  go_wp2_with fail
                  all_goals
                    go_loop [14, 64] (fun is i => ∃ p : Nat, p ≤ xs.length ∧ i = .int .i64 p ∧ is = .bool (isB (n) (xs.take p))) (fun _ i => xs.length - (intOf i).toNat)
                    case atStart => exact ⟨0, by omega, rfl, rfl⟩
                    case round =>
                      obtain ⟨p, hp, rfl, rfl⟩ := hrel
                      by_cases hlt3 : p < xs.length
                      · obtain ⟨y, hy⟩ : ∃ y, xs[p]? = some y := ⟨_, List.getElem?_eq_getElem hlt3⟩
                        obtain ⟨b', off', rfl, hyc⟩ := HXW.out p y hy
                        have hyb := hys y (List.mem_of_getElem? hy)
                        have hsn := isB_snoc (n) xs p y hy
                        obtain ⟨y1, y2⟩ := hyb
                        clear hy
                        rcases (show (0 ≤ y ∧ max y (-y) = y) ∨ (y < 0 ∧ max y (-y) = -y) by omega) with ⟨t1, t2⟩ | ⟨t1, t2⟩
                        all_goals
                          rw [t2] at hsn
                          clear t2
                          have HSB := Lib.hid hsn
                          clear hsn
                          generalize isB (n) (xs.take p) = ib at HSB ⊢
                          cases ib
                          · by_cases he : n = y
                            all_goals by_cases he2 : n = -y
                            all_goals
                              have g1 : ((n) == y) = decide (n = y) := by by_cases h : n = y <;> simp [h]
                              have g2 : ((n) == -y) = decide (n = -y) := by by_cases h : n = -y <;> simp [h]
                              go_wp2
                              all_goals exact ⟨⟨p + 1, by omega, by go_num, by rw [HSB.out]; first | (simp [he, he2]; done) | (simp [he, he2]; omega) | (simp [he, he2, show (if y < -y then -y else y) = -y by split <;> omega]; done) | (simp [he, he2, show (if y < -y then -y else y) = y by split <;> omega]; done) | (rw [show (if y < -y then -y else y) = -y by split <;> omega]; simp; done) | (rw [show (if y < -y then -y else y) = y by split <;> omega]; simp; done) | (rw [show -n = n by omega]; simp; done) | (rw [show -n = n by omega, show -y = y by omega]; simp; done) | (rw [show -y = y by omega]; simp; done)⟩, by simp [intOf]; omega⟩
                          · go_wp2
                            all_goals exact ⟨⟨p + 1, by omega, by go_num, by rw [HSB.out]; rfl⟩, by simp [intOf]; omega⟩
                      · have hpl : (xs.length : Int) ≤ p := by omega
                        rw [List.take_of_length_le (by omega), HEX.out]
                        go_wp2
                        go_roundw
                        case rel => exact ⟨q + 1, by omega, by go_num, by rw [HSN.out, ← List.append_assoc]; unfold MetAt; rw [HML.out]; exact HMET2.out⟩
                        case measure => simp [intOf]; omega
                · rw [s2] at hlow hbig hex
                  have HEX := Lib.hid hex
                  clear s2 hex hmet2
                  go_wp2_with fail
                  all_goals
                    go_loop [14, 64] (fun is i => ∃ p : Nat, p ≤ xs.length ∧ i = .int .i64 p ∧ is = .bool (isB (-n) (xs.take p))) (fun _ i => xs.length - (intOf i).toNat)
                    case atStart => exact ⟨0, by omega, rfl, rfl⟩
                    case round =>
                      obtain ⟨p, hp, rfl, rfl⟩ := hrel
                      by_cases hlt3 : p < xs.length
                      · obtain ⟨y, hy⟩ : ∃ y, xs[p]? = some y := ⟨_, List.getElem?_eq_getElem hlt3⟩
                        obtain ⟨b', off', rfl, hyc⟩ := HXW.out p y hy
                        have hyb := hys y (List.mem_of_getElem? hy)
                        have hsn := isB_snoc (-n) xs p y hy
                        obtain ⟨y1, y2⟩ := hyb
                        clear hy
                        rcases (show (0 ≤ y ∧ max y (-y) = y) ∨ (y < 0 ∧ max y (-y) = -y) by omega) with ⟨t1, t2⟩ | ⟨t1, t2⟩
                        all_goals
                          rw [t2] at hsn
                          clear t2
                          have HSB := Lib.hid hsn
                          clear hsn
                          generalize isB (-n) (xs.take p) = ib at HSB ⊢
                          cases ib
                          · by_cases he : -n = y
                            all_goals by_cases he2 : -n = -y
                            all_goals
                              have g1 : ((-n) == y) = decide (-n = y) := by by_cases h : -n = y <;> simp [h]
                              have g2 : ((-n) == -y) = decide (-n = -y) := by by_cases h : -n = -y <;> simp [h]
                              go_wp2
                              all_goals exact ⟨⟨p + 1, by omega, by go_num, by rw [HSB.out]; first | (simp [he, he2]; done) | (simp [he, he2]; omega) | (simp [he, he2, show (if y < -y then -y else y) = -y by split <;> omega]; done) | (simp [he, he2, show (if y < -y then -y else y) = y by split <;> omega]; done) | (rw [show (if y < -y then -y else y) = -y by split <;> omega]; simp; done) | (rw [show (if y < -y then -y else y) = y by split <;> omega]; simp; done) | (rw [show -n = n by omega]; simp; done) | (rw [show -n = n by omega, show -y = y by omega]; simp; done) | (rw [show -y = y by omega]; simp; done)⟩, by simp [intOf]; omega⟩
                          · go_wp2
                            all_goals exact ⟨⟨p + 1, by omega, by go_num, by rw [HSB.out]; rfl⟩, by simp [intOf]; omega⟩
                      · have hpl : (xs.length : Int) ≤ p := by omega
                        rw [List.take_of_length_le (by omega), HEX.out]
                        go_wp2
                        go_roundw
                        case rel => exact ⟨q + 1, by omega, by go_num, by rw [HSN.out, ← List.append_assoc]; unfold MetAt; rw [HML.out]; exact HMET2.out⟩
                        case measure => simp [intOf]; omega
            · have hql : (c.length : Int) ≤ q := by omega
              have htk : c.take q = c := List.take_of_length_le (by omega)
              rw [htk] at hmet2
              have HMET2 := Lib.hid hmet2
              clear hmet2 htk
              go_wp2
              go_roundw
              case rel => first | exact ⟨j + 1, by omega, by go_num, by rw [HL.out]; exact HMET2.out⟩ | ((repeat apply Exists.intro); exact ⟨⟨j + 1, by omega, by go_num, by rw [HL.out]; exact HMET2.out⟩, rfl⟩)
              case measure => simp [intOf]; omega
        · have hjl : (cs.length : Int) ≤ j := by omega
          have htk : cs.take j = cs := List.take_of_length_le (by omega)
          rw [htk] at hmet
          have hcell : ∀ m : Nat, m < M → wr.cell? ⟨w2.heap.size, m, none⟩ = some (.bool true) := fun m hm => by
            rw [hmet.1.cellAt m (by omega), metV_get M _ m hm]
            have : metB cs.flatten m = true := by
              obtain ⟨c, hc, n, hn, h⟩ := HALL.out m hm
              unfold metB
              refine List.any_eq_true.2 ⟨n, List.mem_flatten.2 ⟨c, hc, hn⟩, ?_⟩
              simp only [beq_iff_eq]
              omega
            rw [this]
          have HCELL := Lib.hid hcell
          have HBW := Lib.hid hmet.2
          clear hcell hmet htk
          have hMb : (M : Int) ≤ 2000 := by omega
          go_wp2_with fail
          go_loop [90] (fun i => ∃ p : Nat, p ≤ M ∧ i = .int .i64 p) (fun i => M - (intOf i).toNat)
          case atStart => exact ⟨0, by omega, rfl⟩
          case round =>
            obtain ⟨p, hp, rfl⟩ := hrel
            by_cases hlt4 : p < M
            · have hcc := HCELL.out p hlt4
              go_wp2
              exact ⟨⟨p + 1, by omega, by go_num⟩, by simp [intOf]; omega⟩
            · have hpl : (M : Int) ≤ p := by omega
              go_wp2_with fail
              refine (lives21 _).mono ?_
              rintro e w9 ⟨rfl, hb9⟩
              go_wp2
              go_ret
              have z := HB2.out.trans (HBW.out.mono HB2.out.size)
              exact ⟨rfl, z.trans (hb9.mono z.size)⟩
theorem walk_WeighNew (lv : Value) (l : List Int) (k : Int) (w : World) (hl : Reads w iV lv l) (hwf : ∀ n ∈ l, -9223372036854775808 ≤ n ∧ n ≤ 9223372036854775807) (hk : -9223372036854775808 ≤ k ∧ k ≤ 9223372036854775807) :
    Calls Try.prog 6 #[lv, .int .i64 k] w fun e w' => e = .returned (.bool true) ∧ Below w.heap.size w w' := by
  by_cases h1 : k < -3
  · exact new_at lv l k (-3) (.inl ⟨h1, rfl⟩) w hl hwf hk
  by_cases h2 : 50 < k
  · exact new_at lv l k 50 (.inr (.inl ⟨h2, rfl⟩)) w hl hwf hk
  exact new_at lv l k k (.inr (.inr ⟨by omega, by omega, rfl⟩)) w hl hwf hk

set_option maxRecDepth 100000 in
theorem lifted_WeighNew (os : Os) (started : os.Started) (H : Type) (enc : TypeId × Value → H) :
    ReturnsInHanded {} Try.checked os 6 .any (Rows.weighNewSpec.pre6 enc Try.prog Try.f6 Rows.weighNewRow.domain false) (Rows.weighNewSpec.post enc Try.prog Try.f6 false true false false) := by
  refine returnsInHanded_of_change (C := Try.checked) own_knob started (by kernel_rfl) Try.func6
    (ChangeSpec.witness6 (enc := enc) (C := Try.checked) false ⟨#[], #[.slice none 0 0, .int .i64 0], []⟩ 8 (by kernel_rfl) (by kernel_rfl) (by kernel_rfl) (by kernel_rfl)) ?_
  intro W base args ds gs before hval0 hW _ _
  have hval : ∀ (j : Nat) t v, Try.f6.params[j]? = some t → args[j]? = some v → Value.okWide Try.prog W .any base t v := hval0
  have hW' := hW
  obtain ⟨p, q, hA0, hV, rfl, _, _⟩ := hW
  have hA : DataW.TrodAll enc Try.prog W 0 (fun _ => true) true Try.f6.params.toList args.toList ds p := hA0
  rw [Try.params6] at hA hval
  obtain ⟨v0, vs0, d0, ds0, p0, q0, hargs, rfl, rfl, h0, r0⟩ := trodAll_cons hA
  obtain ⟨v1, vs1, d1, ds1, p1, q1, rfl, rfl, rfl, h1, r1⟩ := trodAll_cons r0
  obtain ⟨rfl, rfl, rfl⟩ := trodAll_nil r1
  obtain rfl : args = #[v0, v1] := by cases args; simp_all
  obtain ⟨rfl, rfl⟩ := trodVars_none hV
  obtain ⟨l0, g0, w0⟩ := open_reads_ints (hval 0 22 v0 rfl rfl) h0
  obtain ⟨a1, rfl, rfl, rfl, w1⟩ := open_int Try.underlying3 (hval 1 3 v1 rfl rfl) h1
  clear hA0 hval0
  refine (walk_WeighNew v0 l0 a1 W g0 w0 (wf_i64 w1)).mono fun e W' ⟨he, hb⟩ => ?_
  subst he
  exact ⟨_, rfl, law_post (by kernel_rfl) rfl rfl rfl hW' hb⟩

/-- the statement of WeighNew -/
theorem proved_WeighNew : Rows.WeighNewSaid :=
  OpenClaim.holds_of_wide 6 Try.f6 rfl rfl rfl rfl rfl rfl rfl ⟨rfl, rfl, rfl, rfl, rfl⟩ rfl rfl rfl rfl rfl (by kernel_rfl) Try.func6 (by kernel_rfl)
    (of_decide_eq_true (by kernel_rfl)) (by unfold Func.isWrapper; first | (rw [if_pos (by decide +kernel)]; kernel_rfl) | (rw [if_neg (by decide +kernel)]; exact ⟨rfl, rfl⟩))
    (fun os started H enc _ => lifted_WeighNew os started H enc)
end Go.Proofs.Ytfgoalgfpcalgaa
