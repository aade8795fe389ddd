/-
  Layer 21: the contract of weigh.AtMost where 1 ≤ k and k is below the number of literals. Own work.
-/
import Derived.Test.YtfgoalgfpcalgaaAtMostLem
namespace Go.Proofs.Ytfgoalgfpcalgaa
set_option linter.unusedVariables false
set_option linter.unusedSimpArgs false
open Go.RowKit

set_option maxRecDepth 100000 in
set_option maxHeartbeats 4000000 in
theorem AtMost_main (lv : Value) (x : List Int) (k next : Int) (hk1 : 1 ≤ k) (hkn : k < x.length) (hx60 : x.length ≤ 60) (hx : ∀ (j : Nat) (n : Int), x[j]? = some n → -1000000 ≤ n ∧ n ≤ 1000000) (hn0 : 0 ≤ next) (hn1 : next ≤ 200000) (w : World) (hl : SlOf w iV lv x) :
    Calls Try.prog 8 #[lv, .int .i64 k, .int .i64 next] w (AmPost x k next w) := by
  obtain ⟨la, lcap, rfl, hl1, hl2, hlc⟩ := hl
  obtain ⟨x0, hx0⟩ : ∃ n, x[0]? = some n := ⟨_, List.getElem?_eq_getElem (by omega)⟩
  obtain ⟨lb, loff, rfl, hlb, -⟩ := hlc 0 x0 hx0
  have hcell : ∀ (j : Nat) (n : Int), x[j]? = some n → w.cell? ⟨lb, loff + j, none⟩ = some (.int .i64 n) := fun j n hj => by
    obtain ⟨b, off, h, -, hc⟩ := hlc j n hj
    cases h
    exact hc
  clear hlc
  have hst := AM_start (k := k) (next := next) hlb hcell
  obtain ⟨hb01, hb02⟩ := hx 0 x0 hx0
  have hX := Lib.hid hx; clear hx
  have hX0 := Lib.hid hx0; clear hx0 hcell
  have hkn' : k < (x.length : Int) := hkn
  have hln : (x.length : Int) ≤ 60 := by omega
  go_enter Try.func8, Try.ntmps8
  go_wp2_with fail
  generalize (((w.alloc (Obj.cells #[Value.int .i64 k] 3)).alloc (Obj.cells #[Value.int .i64 next] 3)).alloc (Obj.cells #[Value.slice none 0 0] 25)) = w0 at hst ⊢
  have hc0 := hst.2.2.2.2.1 0 x0 hX0.out
  rw [Nat.add_zero] at hc0
  have HST := Lib.hid hst; clear hst
  have hw0 : IntKind.i64.wrap (-x0) = -x0 := IntWalk.i64_in _ (by omega)
  go_cut [] from 17 to 162 (fun wx => AM w lb loff x k next [[-x0, sv next k 1 1]] wx)
  case first =>
    go_region_with (first
      | (go_at_call 17; with_reducible refine (AM_num HST.out.drew 1 1 (by omega) (by omega) (by omega) (by omega) (by omega) (by omega) (by omega) (by omega)).mono ?_; rintro e w' ⟨rfl, rfl⟩)
      | (go_at_call 16; with_reducible refine (AM_add2d HST.out _ _ (by simp)).mono ?_; rintro e w1 ⟨rfl, ham⟩))
    all_goals (go_wp2_with fail; go_meet; exact ham)
  case rest =>
    have HC1 := Lib.hid hcut; clear hcut hw0
    go_wp2_with fail
    go_loopw [13] (fun j wr => Rel1 w lb loff x k next x0 j wr) (fun j _ => (k + 2 - intOf j).toNat)
    case atStart => exact ⟨0, [[-x0, sv next k 1 1]], by omega, rfl, by simp [r1], by simp, HC1.out⟩
    case round =>
      obtain ⟨m, cs, hm, rfl, hcs, hlen, ham⟩ := hrel
      have hck := ham.2.1
      have HCS := Lib.hid hcs; clear hcs
      by_cases hlt : (m : Int) + 2 ≤ k
      · obtain ⟨hs1, hs2⟩ := sv_bd next k 1 ((m : Int) + 2) (by omega) (by omega) (by omega) (by omega) (by omega) (by omega) (by omega) (by omega)
        go_wp2_with (first
          | (go_at_call 17; with_reducible refine (AM_num (by assumption) _ _ (by omega) (by omega) (by omega) (by omega) (by omega) (by omega) (by omega) (by omega)).mono ?_; rintro e w' ⟨rfl, rfl⟩)
          | (go_at_call 16; with_reducible refine (AM_add1 (by assumption) _ (by omega)).mono ?_; rintro e w1 ⟨rfl, ham1⟩))
        go_roundw
        case rel => exact ⟨m + 1, _, by omega, by go_num, by rw [r1_succ, ← List.append_assoc, ← HCS.out], by simp; omega, by assumption⟩
        case measure => simp [intOf]; omega
      · have hmk : (k - 1).toNat = m := by omega
        rw [← hmk] at HCS
        clear hmk
        go_wp2_with fail
        have hlen' : cs.length ≤ 100 := by omega
        have HM1 := Lib.hid hm; clear hm hlt
        generalize (m : Int) + 2 = dead
        go_loopw [14] (fun i wr => Rel3 w lb loff x k next cs i wr) (fun i _ => x.length - (intOf i).toNat)
        case atStart => exact ⟨0, cs, by omega, rfl, by simp [r2], by omega, ham⟩
        case round =>
          obtain ⟨m2, cs2, hm2, rfl, hcs2, hlen2, ham2⟩ := hrel
          have HCS2 := Lib.hid hcs2; clear hcs2 hck ham
          by_cases hlt2 : m2 + 2 < x.length
          · obtain ⟨xi, hxi⟩ : ∃ n, x[m2 + 1]? = some n := ⟨_, List.getElem?_eq_getElem (by omega)⟩
            have hxd : x.getD (m2 + 1) 0 = xi := by simp only [List.getD, hxi, Option.getD_some]
            obtain ⟨hq1, hq2⟩ := hX.out _ _ hxi
            have hci := ham2.2.2.2.2.1 _ _ hxi
            have HXD := Lib.hid hxd; clear hxd hxi
            have hi1 : (m2 : Int) + 2 - 1 = (m2 : Int) + 1 := by omega
            have hlt2' : (m2 : Int) + 2 < x.length := by omega
            obtain ⟨ha1, ha2⟩ := sv_bd next k ((m2 : Int) + 1) 1 (by omega) (by omega) (by omega) (by omega) (by omega) (by omega) (by omega) (by omega)
            go_wp2_with (first
              | (go_at_call 17; with_reducible refine (AM_num (by assumption) _ _ (by omega) (by omega) (by omega) (by omega) (by omega) (by omega) (by omega) (by omega)).mono ?_; rintro e w' ⟨rfl, rfl⟩)
              | (go_at_call 16; with_reducible refine (AM_add2 (by assumption) _ _ (by first | omega | (simp only [List.length_append, List.length_cons, List.length_nil]; omega))).mono ?_; rintro e w1 ⟨rfl, ham1⟩)
              | (go_at_call 16; with_reducible refine (AM_add3 (by assumption) _ _ _ (by first | omega | (simp only [List.length_append, List.length_cons, List.length_nil]; omega))).mono ?_; rintro e w1 ⟨rfl, ham1⟩))
            go_loopw [16] (fun j wr => Rel4 w lb loff x k next xi ((m2 : Int) + 1) ((m2 : Int) + 2) (cs2 ++ [[-xi, sv next k ((m2 : Int) + 2) 1]] ++ [[-(sv next k ((m2 : Int) + 1) 1), sv next k ((m2 : Int) + 2) 1]]) (cs2.length + 2) j wr) (fun j _ => (k + 2 - intOf j).toNat)
            case atStart => exact ⟨0, cs2 ++ [[-xi, sv next k ((m2 : Int) + 2) 1]] ++ [[-(sv next k ((m2 : Int) + 1) 1), sv next k ((m2 : Int) + 2) 1]], by omega, rfl, by simp [rin], by simp, by assumption⟩
            case round =>
              obtain ⟨m4, cs4, hm4, rfl, hcs4, hlen4, ham4⟩ := hrel
              have hck4 := ham4.2.1
              by_cases hlt4 : (m4 : Int) + 2 ≤ k
              · have HCS4 := Lib.hid hcs4; clear hcs4
                have hj1 : (m4 : Int) + 2 - 1 = (m4 : Int) + 1 := by omega
                obtain ⟨hc1, hc2⟩ := sv_bd next k ((m2 : Int) + 1) ((m4 : Int) + 1) (by omega) (by omega) (by omega) (by omega) (by omega) (by omega) (by omega) (by omega)
                obtain ⟨hd1, hd2⟩ := sv_bd next k ((m2 : Int) + 1) ((m4 : Int) + 2) (by omega) (by omega) (by omega) (by omega) (by omega) (by omega) (by omega) (by omega)
                go_wp2_with (first
                | (go_at_call 17; with_reducible refine (AM_num (by assumption) _ _ (by omega) (by omega) (by omega) (by omega) (by omega) (by omega) (by omega) (by omega)).mono ?_; rintro e w' ⟨rfl, rfl⟩)
                | (go_at_call 16; with_reducible refine (AM_add2 (by assumption) _ _ (by first | omega | (simp only [List.length_append, List.length_cons, List.length_nil]; omega))).mono ?_; rintro e w1 ⟨rfl, ham1⟩)
                | (go_at_call 16; with_reducible refine (AM_add3 (by assumption) _ _ _ (by first | omega | (simp only [List.length_append, List.length_cons, List.length_nil]; omega))).mono ?_; rintro e w1 ⟨rfl, ham1⟩))
                go_roundw
                case rel => exact ⟨m4 + 1, _, by omega, by go_num, by rw [rin_succ, ← List.append_assoc, ← List.append_assoc, ← HCS4.out], by simp only [List.length_append, List.length_cons, List.length_nil]; omega, by assumption⟩
                case measure => simp [intOf]; omega
              · have hmk4 : (k - 1).toNat = m4 := by omega
                rw [← hmk4] at hcs4
                have HCS4 := Lib.hid hcs4; clear hcs4
                have HMK4 := Lib.hid hmk4; clear hmk4
                obtain ⟨hc1, hc2⟩ := sv_bd next k ((m2 : Int) + 1) k (by omega) (by omega) (by omega) (by omega) (by omega) (by omega) (by omega) (by omega)
                go_wp2_with (first
                | (go_at_call 17; with_reducible refine (AM_num (by assumption) _ _ (by omega) (by omega) (by omega) (by omega) (by omega) (by omega) (by omega) (by omega)).mono ?_; rintro e w' ⟨rfl, rfl⟩)
                | (go_at_call 16; with_reducible refine (AM_add2 (by assumption) _ _ (by first | omega | (simp only [List.length_append, List.length_cons, List.length_nil]; omega))).mono ?_; rintro e w1 ⟨rfl, ham1⟩)
                | (go_at_call 16; with_reducible refine (AM_add3 (by assumption) _ _ _ (by first | omega | (simp only [List.length_append, List.length_cons, List.length_nil]; omega))).mono ?_; rintro e w1 ⟨rfl, ham1⟩))
                go_roundw
                case rel => exact ⟨m2 + 1, cs4 ++ [[-xi, -(sv next k ((m2 : Int) + 1) k)]], by omega, by go_num, by rw [r2_succ, HXD.out, HCS4.out, HCS2.out]; unfold blk; simp only [List.append_assoc], by simp only [List.length_append, List.length_cons, List.length_nil]; omega, by assumption⟩
                case measure => simp [intOf]; omega
          · have hxl : x.length = m2 + 2 := by omega
            have hx2 : x.length - 2 = m2 := by omega
            rw [← hx2] at HCS2
            obtain ⟨xl, hxl2⟩ : ∃ n, x[m2 + 1]? = some n := ⟨_, List.getElem?_eq_getElem (by omega)⟩
            obtain ⟨hq1, hq2⟩ := hX.out _ _ hxl2
            have hcl := ham2.2.2.2.2.1 _ _ hxl2
            have hck2 := ham2.2.1
            have hxld : x.getD (x.length - 1) 0 = xl := by
              rw [show x.length - 1 = m2 + 1 by omega]
              simp only [List.getD, hxl2, Option.getD_some]
            have HXL := Lib.hid hxld
            clear hx2 hxl2 hxld
            go_wp2_with fail
            obtain ⟨hc1, hc2⟩ := sv_bd next k ((m2 : Int) + 1) k (by omega) (by omega) (by omega) (by omega) (by omega) (by omega) (by omega) (by omega)
            have hj1 : (0 : Int) ≤ (m2 : Int) + 1 := by omega
            have hj2 : (m2 : Int) + 1 < x.length := by omega
            have hwl : IntKind.i64.wrap ((x.length : Int) - 1) = (m2 : Int) + 1 := by rw [IntWalk.i64_in _ (by omega)]; omega
            have hwx : IntKind.i64.wrap (-xl) = -xl := IntWalk.i64_in _ (by omega)
            have hws : IntKind.i64.wrap (-(sv next k ((m2 : Int) + 1) k)) = -(sv next k ((m2 : Int) + 1) k) := IntWalk.i64_in _ (by omega)
            have hl7 : cs2.length ≤ 1000000 := by omega
            have hnum := fun (wz : World) (hz : AM w lb loff x k next cs2 wz) => AM_num hz ((m2 : Int) + 1) k (by omega) (by omega) (by omega) (by omega) (by omega) (by omega) (by omega) (by omega)
            have HNUM := Lib.hid hnum; clear hnum
            have HXLEN := Lib.hid hxl; clear hxl
            go_cut [] from 17 to 162 (fun wx => AM w lb loff x k next (cs2 ++ [[-xl, -(sv next k ((m2 : Int) + 1) k)]]) wx)
            case first =>
              go_region_with (first
                | (go_at_call 17; with_reducible refine (HNUM.out _ ham2.drew).mono ?_; rintro e w' ⟨rfl, rfl⟩)
                | (go_at_call 16; with_reducible refine (AM_add2d ham2 _ _ hl7).mono ?_; rintro e w1 ⟨rfl, ham⟩))
              all_goals (go_wp2_with fail; go_meet; exact ham)
            case rest =>
              clear hwl hwx hws hcl hck2
              have HAM := Lib.hid hcut
              obtain ⟨v, hv, hrows⟩ := hcut.2.2.2.1
              have hv0 : wc.cell? ⟨w.heap.size + 1 + 1, 0, none⟩ = some v := by rw [cell_of_row wc _ 0 _ _ (0, 0) hv]; rfl
              have hvf : wc.frozen? ⟨w.heap.size + 1 + 1, 0, none⟩ = false := frozen_of_row wc _ 0 _ _ hv
              have hfin := fin_most hcut hv hrows
              have HFIN := Lib.hid hfin
              have hn2 := fun (wz : World) (hz : AM w lb loff x k next (cs2 ++ [[-xl, -(sv next k ((m2 : Int) + 1) k)]]) wz) => AM_num hz (x.length : Int) 1 (by omega) (by omega) (by omega) (by omega) (by omega) (by omega) (by omega) (by omega)
              have HN2 := Lib.hid hn2
              obtain ⟨ch, nch, cch, rfl⟩ := rows_slice hrows
              clear hfin hn2 hv hcut hrows
              go_wp2_with fail
              go_region_with (go_at_call 17; with_reducible refine (HN2.out _ HAM.out.drew).mono ?_; rintro e w' ⟨rfl, rfl⟩)
              all_goals go_wp2
              all_goals
                refine bodyPost_ret (v := .tuple #[.slice ch nch cch, .int .i64 (sv next k (x.length : Int) 1)]) (by simp [results, Try.results8, go_sem, *]) rfl ?_
                have he : cs2 ++ [[-xl, -(sv next k ((m2 : Int) + 1) k)]] = most x k next := by
                  unfold most
                  rw [HCS2.out, HCS.out, HXL.out, show x.getD 0 0 = x0 by simp only [List.getD, hX0.out, Option.getD_some], show ((x.length : Int) - 1) = (m2 : Int) + 1 by rw [HXLEN.out]; omega]
                exact ⟨_, rfl, by rw [← he]; exact HFIN.out.1, HFIN.out.2⟩
end Go.Proofs.Ytfgoalgfpcalgaa
