/-
  Layer 21: the contract of the answer's AtMost where 1 ≤ k and k is below the number of literals. Own work.
-/
import Derived.Test.YtfgoalgfpcalgaaRefMost
namespace Go.Proofs.Ytfgoalgfpcalgaa
set_option linter.unusedVariables false
set_option linter.unusedSimpArgs false
open Go.RowKit

def c0L (x : List Int) (k next : Int) : List (List Int) := [[-(x.getD 0 0), sv next k 1 1]] ++ r1 next k (k - 1).toNat
/-- the answer's clauses behind m rounds -/
def preL (x : List Int) (k next : Int) : Nat → List (List Int)
  | 0 => []
  | m + 1 => if m + 1 < x.length then c0L x k next ++ r2 x next k m else most x k next
theorem preL_in (x : List Int) (k next : Int) (m : Nat) (h : m + 1 < x.length) : preL x k next (m + 1) = c0L x k next ++ r2 x next k m := if_pos h
theorem preL_end (x : List Int) (k next : Int) (m : Nat) (h : ¬ m + 1 < x.length) : preL x k next (m + 1) = most x k next := if_neg h
theorem r1_len (next k : Int) (m : Nat) : (r1 next k m).length = m := by unfold r1; simp
theorem rin_len (next k xi h i : Int) (m : Nat) : (rin next k xi h i m).length = 2 * m := by
  induction m with
  | zero => rfl
  | succ m ih => rw [rin_succ]; simp [ih]; omega
theorem blk_len (next k xi h i : Int) : (blk next k xi h i).length = 3 + 2 * (k - 1).toNat := by
  unfold blk; simp [rin_len]; omega
theorem r2_len (x : List Int) (next k : Int) (m : Nat) : (r2 x next k m).length = m * (3 + 2 * (k - 1).toNat) := by
  induction m with
  | zero => simp [r2]
  | succ m ih => rw [r2_succ, List.length_append, ih, blk_len, Nat.add_mul m 1, Nat.one_mul]
def RRel (w : World) (lb loff : Nat) (x : List Int) (k next : Int) (v i : Value) (wr : World) : Prop :=
  ∃ (m : Nat) (u : Value), u = v ∧ m ≤ x.length ∧ i = .int .i64 ((m : Int) + 1) ∧ RM w lb loff x (preL x k next m) u wr
def RRel1 (w : World) (lb loff : Nat) (x : List Int) (k next : Int) (c : List (List Int)) (v j : Value) (wr : World) : Prop :=
  ∃ (t : Nat) (u : Value), u = v ∧ (t : Int) + 1 ≤ k ∧ j = .int .i64 ((t : Int) + 1) ∧ RM w lb loff x (c ++ r1 next k t) u wr
def RRel4 (w : World) (lb loff : Nat) (x : List Int) (k next xi h i : Int) (c : List (List Int)) (v j : Value) (wr : World) : Prop :=
  ∃ (t : Nat) (u : Value), u = v ∧ (t : Int) + 1 ≤ k ∧ j = .int .i64 ((t : Int) + 1) ∧ RM w lb loff x (c ++ rin next k xi h i t) u wr
theorem len_bound (x : List Int) (next k : Int) (m : Nat) (hm : m ≤ 60) (hk : k ≤ 60) (x0 : Int) : (c0L x k next ++ r2 x next k m).length ≤ 20000 := by
  unfold c0L
  simp only [List.length_append, r1_len, r2_len, List.length_cons, List.length_nil]
  have h1 : (k - 1).toNat ≤ 60 := by omega
  have h2 : m * (3 + 2 * (k - 1).toNat) ≤ 60 * 123 := Nat.mul_le_mul hm (by omega)
  omega
set_option maxRecDepth 100000 in
set_option maxHeartbeats 4000000 in
theorem ref_main (lv : Value) (x : List Int) (k next : Int) (hk1 : 1 ≤ k) (hkn : k < x.length) (hx60 : x.length ≤ 60) (hx : ∀ (j : Nat) (n : Int), x[j]? = some n → -1000000 ≤ n ∧ n ≤ 1000000) (hn0 : 0 ≤ next) (hn1 : next ≤ 200000) (w : World) (hl : SlOf w iV lv x) :
    Calls Try.prog 9 #[lv, .int .i64 k, .int .i64 next] w (AmPost x k next w) := by
  obtain ⟨la, lcap, rfl, hl1, hl2, hlc⟩ := hl
  obtain ⟨x0, hx0⟩ : ∃ n, x[0]? = some n := ⟨_, List.getElem?_eq_getElem (by omega)⟩
  obtain ⟨lb, loff, rfl, hlb, -⟩ := hlc 0 x0 hx0
  have hcell : ∀ (j : Nat) (n : Int), x[j]? = some n → w.cell? ⟨lb, loff + j, none⟩ = some (.int .i64 n) := fun j n hj => by
    obtain ⟨b, off, h, -, hc⟩ := hlc j n hj
    cases h
    exact hc
  clear hlc
  have hst : RM w lb loff x (preL x k next 0) (.slice none 0 0) w := ⟨Below.refl _ _, ⟨[], World.ownsRow_nil _ _ _ _, fun j c h => by simp [preL] at h⟩, hcell, hlb⟩
  have HST := Lib.hid hst; clear hst
  have hX := Lib.hid hx
  have hxd0 : x.getD 0 0 = x0 := by simp only [List.getD, hx0, Option.getD_some]
  have HXD0 := Lib.hid hxd0
  have hX0 := Lib.hid hx0
  obtain ⟨hz1, hz2⟩ := hx 0 x0 hx0
  clear hx0 hcell hx hxd0
  have hln : (x.length : Int) ≤ 60 := by omega
  have hkn' : k < (x.length : Int) := hkn
  have hkz : (k == 0) = false := by apply beq_false_of_ne; omega
  have hkd : decide (k < 0) = false := by simp; omega
  have hkl : decide ((x.length : Int) ≤ k) = false := by simp; omega
  go_enter Try.func9, Try.ntmps9
  go_wp2_with fail
  go_loopw [8, 11] (fun v i wr => RRel w lb loff x k next v i wr) (fun _ i _ => (x.length + 1 - intOf i).toNat)
  case atStart => exact ⟨0, _, rfl, by omega, rfl, HST.out⟩
  case round =>
    obtain ⟨m, v, rfl, hm, rfl, hrm⟩ := hrel
    have hp0 : 0 ≤ (m : Int) * k := Int.mul_nonneg (by omega) (by omega)
    have hp1 : (m : Int) * k ≤ 60 * 60 := Int.mul_le_mul (by omega) (by omega) (by omega) (by decide)
    have hi1 : (m : Int) + 1 - 1 = (m : Int) := by omega
    have hsv1 : ∀ j, sv next k ((m : Int) + 1) j = next + (m : Int) * k + j - 1 := fun j => by unfold sv; rw [hi1]
    have hsv0 : ∀ j, sv next k (m : Int) j = next + (m : Int) * k - k + j - 1 := fun j => by unfold sv; rw [Int.sub_mul]; omega
    have HSV1 := Lib.hid hsv1; clear hsv1
    have HSV0 := Lib.hid hsv0; clear hsv0
    have HRM := Lib.hid hrm
    obtain ⟨hb, ⟨rows, hown, hrows⟩, hcells, -⟩ := hrm
    have hsz := hb.size
    have HROWS := Lib.hid hrows; clear hrows hb
    by_cases hlt : m < x.length
    · by_cases h0 : m = 0
      · have hcx := hcells 0 x0 hX0.out
        rw [Nat.add_zero] at hcx
        have hb1 : ((m : Int) + 1 == 1) = true := by rw [h0]; rfl
        have hz : preL x k next m = [] := by rw [h0]; rfl
        rw [hz] at hown HROWS HRM
        have hle1 : (m : Int) + 1 ≤ x.length := by omega
        have H0 := Lib.hid h0
        clear hz h0 hcells
        go_wp2_with (at_builtin
                     refine appL [.slice (some ⟨wr.heap.size, 0, none⟩) 2 2] rfl _ _ 25 22 rfl (.slice none 0 0) 24 w.heap.size 0 Try.underlying25 row_info rfl v _ rfl (hown.alloc _) _ 1 rfl (by simp) rfl one_cell (by simp only [List.length_singleton]; omega) (by simp only [List.length_singleton]; omega) (by simp; omega) ?_)
        intro v' w' ho' hg' hb'
        have e1 : next + (m : Int) * k = sv next k 1 1 := by
          have h := HSV1.out 1
          rw [show (m : Int) + 1 = 1 by have := H0.out; omega] at h
          omega
        rw [e1] at hg' hb'
        have hrm1 := HRM.out.one hown HROWS.out [-x0, sv next k 1 1] (by simp) ho' hg' hb'
        have HRM1 := Lib.hid hrm1
        have E1 := Lib.hid e1
        clear e1 ho' hg' hb' hrm1 hown
        go_wp2_with fail
        go_loopw [8, 14] (fun v j wr => RRel1 w lb loff x k next [[-x0, sv next k 1 1]] v j wr) (fun _ j _ => (k + 1 - intOf j).toNat)
        case atStart => exact ⟨0, _, rfl, by omega, rfl, by simpa [r1] using HRM1.out⟩
        case round =>
          obtain ⟨t, v2, rfl, ht, rfl, hrt⟩ := hrel
          have HR2 := Lib.hid hrt
          obtain ⟨hb2, ⟨rows2, hown2, hrows2⟩, hcells2, -⟩ := hrt
          have hsz2 := hb2.size
          have HROWS2 := Lib.hid hrows2; clear hrows2 hb2
          by_cases hlt2 : (t : Int) + 1 < k
          · have hlen2 : ([[-x0, sv next k 1 1]] ++ r1 next k t).length ≤ 100 := by simp [r1_len]; omega
            have e2 : next + (m : Int) * k + ((t : Int) + 1) = sv next k 1 ((t : Int) + 2) := by
              have h := HSV1.out ((t : Int) + 2)
              rw [show (m : Int) + 1 = 1 by have := H0.out; omega] at h
              omega
            have E2 := Lib.hid e2; clear e2 hcells2
            generalize hcs : [[-x0, sv next k 1 1]] ++ r1 next k t = cs at hown2 HROWS2 HR2 hlen2
            have HCS := Lib.hid hcs; clear hcs
            go_wp2_with (at_builtin
                         refine appL [.slice (some ⟨wr.heap.size, 0, none⟩) 1 1] rfl _ _ 25 22 rfl (.slice none 0 0) 24 w.heap.size cs.length Try.underlying25 row_info rfl _ _ rfl (hown2.alloc _) _ 1 rfl (by simp) rfl one_cell (by simp only [List.length_singleton, List.length_cons, List.length_nil]; omega) (by simp only [List.length_singleton, List.length_cons, List.length_nil]; omega) (by simp; omega) ?_)
            intro v3 w3 ho' hg' hb'
            rw [E2.out] at hg' hb'
            have hr3 := Lib.hid (HR2.out.one hown2 HROWS2.out [-(sv next k 1 ((t : Int) + 2))] (by simp) ho' hg' hb')
            clear ho' hg' hb' hown2
            go_wp2
            go_roundw
            case rel => exact ⟨t + 1, _, rfl, by omega, by go_num, by rw [r1_succ, ← List.append_assoc, HCS.out]; exact hr3.out⟩
            case measure => simp [intOf]; omega
          · have htk : (k - 1).toNat = t := by omega
            have hpre : preL x k next (m + 1) = [[-x0, sv next k 1 1]] ++ r1 next k t := by
              rw [preL_in _ _ _ _ (by have := H0.out; omega), H0.out]
              unfold c0L
              rw [HXD0.out, htk]
              simp [r2]
            have HPRE := Lib.hid hpre; clear hpre htk hown2 hcells2
            go_wp2
            go_roundw
            case rel => first | exact ⟨m + 1, _, rfl, by have := H0.out; omega, by go_num, by rw [HPRE.out]; exact HR2.out⟩ | ((repeat apply Exists.intro); exact ⟨⟨m + 1, _, rfl, by have := H0.out; omega, by go_num, by rw [HPRE.out]; exact HR2.out⟩, rfl⟩)
            case measure => simp [intOf]; omega
      · obtain ⟨q, hq⟩ : ∃ q, m = q + 1 := ⟨m - 1, by omega⟩
        obtain ⟨xi, hxi⟩ : ∃ n, x[m]? = some n := ⟨_, List.getElem?_eq_getElem hlt⟩
        obtain ⟨y1, y2⟩ := hX.out m xi hxi
        have hcx := hcells m xi hxi
        have hxd : x.getD m 0 = xi := by simp only [List.getD, hxi, Option.getD_some]
        have HXI := Lib.hid hxi
        have HXD := Lib.hid hxd
        have hb1 : ((m : Int) + 1 == 1) = false := by apply beq_false_of_ne; omega
        have hle1 : (m : Int) + 1 ≤ x.length := by omega
        have hpm : preL x k next m = c0L x k next ++ r2 x next k q := by
          rw [hq]; exact preL_in _ _ _ _ (by omega)
        have hlm : (preL x k next m).length ≤ 20000 := by rw [hpm]; exact len_bound x next k q (by omega) (by omega) 0
        have HPM := Lib.hid hpm
        have HQ := Lib.hid hq
        clear hxi hxd hpm hq hcells h0
        generalize hcs : preL x k next m = cs at hown HROWS HRM hlm
        have HCS := Lib.hid hcs; clear hcs
        have e8 : next + (m : Int) * k - 1 = sv next k (m : Int) k := by rw [HSV0.out]; omega
        have e9 : next + (m : Int) * k - k + k - 1 = sv next k (m : Int) k := by rw [HSV0.out]
        by_cases hlast : m + 1 < x.length
        · have hlast' : (m : Int) + 1 < x.length := by omega
          have e3 : next + (m : Int) * k = sv next k ((m : Int) + 1) 1 := by rw [HSV1.out]; omega
          have e4 : next + (m : Int) * k - k = sv next k (m : Int) 1 := by rw [HSV0.out]; omega
          have E3 := Lib.hid e3
          have E4 := Lib.hid e4
          have E8 := Lib.hid e8
          have E9 := Lib.hid e9
          clear e3 e4 e8 e9
          go_wp2_with (at_builtin
                       refine appL [.slice (some ⟨wr.heap.size, 0, none⟩) 2 2, .slice (some ⟨wr.heap.size + 1, 0, none⟩) 2 2] rfl _ _ 25 22 rfl (.slice none 0 0) 24 w.heap.size cs.length Try.underlying25 row_info rfl _ _ rfl ((hown.alloc _).alloc _) _ 2 rfl (by simp) rfl two_cell (by simp only [List.length_singleton, List.length_cons, List.length_nil]; omega) (by simp only [List.length_singleton, List.length_cons, List.length_nil]; omega) (by simp; omega) ?_)
          intro v' w' ho' hg' hb'
          rw [E4.out, E3.out] at hg' hb'
          have hrm1 := Lib.hid (HRM.out.two hown HROWS.out [-xi, sv next k ((m : Int) + 1) 1] [-(sv next k (m : Int) 1), sv next k ((m : Int) + 1) 1] (by simp) (by simp) ho' hg' hb')
          clear ho' hg' hb' hown hcx
          have hlm2 : (cs ++ [[-xi, sv next k ((m : Int) + 1) 1], [-(sv next k (m : Int) 1), sv next k ((m : Int) + 1) 1]]).length ≤ 20002 := by simp; omega
          generalize hcs2 : cs ++ [[-xi, sv next k ((m : Int) + 1) 1], [-(sv next k (m : Int) 1), sv next k ((m : Int) + 1) 1]] = cs2 at hrm1 hlm2
          have HCS2 := Lib.hid hcs2; clear hcs2
          go_wp2_with fail
          go_loopw [8, 15] (fun v j wr => RRel4 w lb loff x k next xi (m : Int) ((m : Int) + 1) cs2 v j wr) (fun _ j _ => (k + 1 - intOf j).toNat)
          case atStart => exact ⟨0, _, rfl, by omega, rfl, by simpa [rin] using hrm1.out⟩
          case round =>
            obtain ⟨t, v2, rfl, ht, rfl, hrt⟩ := hrel
            have HR2 := Lib.hid hrt
            obtain ⟨hb2, ⟨rows2, hown2, hrows2⟩, hcells2, -⟩ := hrt
            have hsz2 := hb2.size
            have HROWS2 := Lib.hid hrows2; clear hrows2 hb2
            have hlen2 : (cs2 ++ rin next k xi (m : Int) ((m : Int) + 1) t).length ≤ 30000 := by simp [rin_len]; omega
            have hcx2 := hcells2 m xi HXI.out
            clear hcells2
            generalize hcs3 : cs2 ++ rin next k xi (m : Int) ((m : Int) + 1) t = cs3 at hown2 HROWS2 HR2 hlen2
            have HCS3 := Lib.hid hcs3; clear hcs3
            by_cases hlt2 : (t : Int) + 1 < k
            · have e5 : next + (m : Int) * k - k + ((t : Int) + 1) - 1 = sv next k (m : Int) ((t : Int) + 1) := by rw [HSV0.out]
              have e6 : next + (m : Int) * k - k + ((t : Int) + 1) = sv next k (m : Int) ((t : Int) + 2) := by rw [HSV0.out]; omega
              have e7 : next + (m : Int) * k + ((t : Int) + 1) = sv next k ((m : Int) + 1) ((t : Int) + 2) := by rw [HSV1.out]; omega
              have E5 := Lib.hid e5
              have E6 := Lib.hid e6
              have E7 := Lib.hid e7
              clear e5 e6 e7
              go_wp2_with (at_builtin
                           refine appL [.slice (some ⟨wr.heap.size, 0, none⟩) 3 3, .slice (some ⟨wr.heap.size + 1, 0, none⟩) 2 2] rfl _ _ 25 22 rfl (.slice none 0 0) 24 w.heap.size cs3.length Try.underlying25 row_info rfl _ _ rfl ((hown2.alloc _).alloc _) _ 2 rfl (by simp) rfl two_cell (by simp only [List.length_singleton, List.length_cons, List.length_nil]; omega) (by simp only [List.length_singleton, List.length_cons, List.length_nil]; omega) (by simp; omega) ?_)
              intro v3 w3 ho' hg' hb'
              rw [E5.out, E6.out, E7.out] at hg' hb'
              have hr3 := Lib.hid (HR2.out.two hown2 HROWS2.out [-xi, -(sv next k (m : Int) ((t : Int) + 1)), sv next k ((m : Int) + 1) ((t : Int) + 2)] [-(sv next k (m : Int) ((t : Int) + 2)), sv next k ((m : Int) + 1) ((t : Int) + 2)] (by simp) (by simp) ho' hg' hb')
              clear ho' hg' hb' hown2
              go_wp2
              go_roundw
              case rel => exact ⟨t + 1, _, rfl, by omega, by go_num, by rw [rin_succ, ← List.append_assoc, ← List.append_assoc, HCS3.out]; simpa using hr3.out⟩
              case measure => simp [intOf]; omega
            · have htk : (k - 1).toNat = t := by omega
              have hpre : preL x k next (m + 1) = cs3 ++ [[-xi, -(sv next k (m : Int) k)]] := by
                rw [preL_in _ _ _ _ hlast, HQ.out, r2_succ, ← HQ.out, HXD.out, ← HCS3.out, ← HCS2.out, ← HCS.out, HPM.out]
                unfold blk
                rw [htk, show (q : Int) + 1 = (m : Int) by rw [HQ.out]; omega, show (q : Int) + 2 = (m : Int) + 1 by rw [HQ.out]; omega]
                simp
              have HPRE := Lib.hid hpre; clear hpre htk
              go_wp2_with (at_builtin
                           refine appL [.slice (some ⟨wr.heap.size, 0, none⟩) 2 2] rfl _ _ 25 22 rfl (.slice none 0 0) 24 w.heap.size cs3.length Try.underlying25 row_info rfl _ _ rfl (hown2.alloc _) _ 1 rfl (by simp) rfl one_cell (by simp only [List.length_singleton, List.length_cons, List.length_nil]; omega) (by simp only [List.length_singleton, List.length_cons, List.length_nil]; omega) (by simp; omega) ?_)
              intro v3 w3 ho' hg' hb'
              first
                | rw [E9.out] at hg' hb'
                | rw [E8.out] at hg' hb'
              have hr3 := Lib.hid (HR2.out.one hown2 HROWS2.out [-xi, -(sv next k (m : Int) k)] (by simp) ho' hg' hb')
              clear ho' hg' hb' hown2
              go_wp2
              go_roundw
              case rel => first | exact ⟨m + 1, _, rfl, by omega, by go_num, by rw [HPRE.out]; exact hr3.out⟩ | ((repeat apply Exists.intro); exact ⟨⟨m + 1, _, rfl, by omega, by go_num, by rw [HPRE.out]; exact hr3.out⟩, rfl⟩)
              case measure => simp [intOf]; omega
        · have hlast' : (x.length : Int) ≤ (m : Int) + 1 := by omega
          have hpre : preL x k next (m + 1) = cs ++ [[-xi, -(sv next k (m : Int) k)]] := by
            rw [preL_end _ _ _ _ hlast, ← HCS.out, HPM.out]
            unfold most c0L
            rw [show x.length - 2 = q by have := HQ.out; omega, show x.length - 1 = m by omega, HXD.out, show ((x.length : Int) - 1) = (m : Int) by omega]
          have HPRE := Lib.hid hpre; clear hpre
          have E8 := Lib.hid e8
          have E9 := Lib.hid e9
          clear e8 e9
          go_wp2_with (at_builtin
                       refine appL [.slice (some ⟨wr.heap.size, 0, none⟩) 2 2] rfl _ _ 25 22 rfl (.slice none 0 0) 24 w.heap.size cs.length Try.underlying25 row_info rfl _ _ rfl (hown.alloc _) _ 1 rfl (by simp) rfl one_cell (by simp only [List.length_singleton, List.length_cons, List.length_nil]; omega) (by simp only [List.length_singleton, List.length_cons, List.length_nil]; omega) (by simp; omega) ?_)
          intro v3 w3 ho' hg' hb'
          first
            | rw [E9.out] at hg' hb'
            | rw [E8.out] at hg' hb'
          have hr3 := Lib.hid (HRM.out.one hown HROWS.out [-xi, -(sv next k (m : Int) k)] (by simp) ho' hg' hb')
          clear ho' hg' hb' hown
          go_wp2
          go_roundw
          case rel => first | exact ⟨m + 1, _, rfl, by omega, by go_num, by rw [HPRE.out]; exact hr3.out⟩ | ((repeat apply Exists.intro); exact ⟨⟨m + 1, _, rfl, by omega, by go_num, by rw [HPRE.out]; exact hr3.out⟩, rfl⟩)
          case measure => simp [intOf]; omega
    · have hml : m = x.length := by omega
      have hg0 : 0 ≤ ((x.length : Int) - 1) * k := Int.mul_nonneg (by omega) (by omega)
      have hg1 : ((x.length : Int) - 1) * k ≤ 60 * 60 := Int.mul_le_mul (by omega) (by omega) (by omega) (by decide)
      have hpm : preL x k next m = most x k next := by
        obtain ⟨q, hq⟩ : ∃ q, m = q + 1 := ⟨m - 1, by omega⟩
        rw [hq]; exact preL_end _ _ _ _ (by omega)
      have hres : next + ((x.length : Int) - 1) * k = sv next k (x.length : Int) 1 := by unfold sv; omega
      have HRES := Lib.hid hres; clear hres
      have HPM := Lib.hid hpm; clear hpm hown hcells
      have hgt : (x.length : Int) < (m : Int) + 1 := by omega
      have HML := Lib.hid hml; clear hml
      go_wp2
      go_ret2
      exact ⟨_, by rw [HRES.out]; rfl, by have h := HRM.out.2.1; rw [HPM.out] at h; exact h, HRM.out.1⟩
end Go.Proofs.Ytfgoalgfpcalgaa
