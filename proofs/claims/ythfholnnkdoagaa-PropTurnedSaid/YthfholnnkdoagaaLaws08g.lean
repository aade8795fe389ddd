/-
  Layer 8: the statement PropTurned: properties in another order, or behind one that no one needs. Own work.
-/
import Derived.Test.YthfholnnkdoagaaTrn8
import Derived.Test.YthfholnnkdoagaaSli8
import Derived.Test.YthfholnnkdoagaaBth8
namespace Go.Proofs.Ythfholnnkdoagaa
set_option linter.unusedVariables false
set_option linter.unusedSimpArgs false
open Go.ChangeShapes Go.WideShapes Go.ChangeAt Go.RowKit
open Go.ChangeMaps (open_string shut_string)

def nev8 : List UInt8 := [110, 101, 118, 101, 114, 32, 123]
def nevV8 : List UInt8 := [36, 123, 110, 101, 118, 101, 114, 32, 123, 125]
/-- the law's own properties -/
def Own8 (O : List Pp) : Prop := O.length ≤ 20 ∧ (O.map (·.1)).Nodup ∧ ∀ p ∈ O, p.1.length ≤ 1000 ∧ p.2.length ≤ 1000
theorem Own8.snoc {O : List Pp} (h : Own8 O) {p : Pp} (hl : O.length < 20) (hn : getM O p.1 = none) (h1 : p.1.length ≤ 1000 ∧ p.2.length ≤ 1000) : Own8 (O ++ [p]) := by
  refine ⟨by rw [List.length_append, List.length_singleton]; omega, ?_, fun q hq => ?_⟩
  · rw [List.map_append, List.nodup_append]
    refine ⟨h.2.1, by simp, fun a ha b hb => ?_⟩
    rw [List.map_singleton, List.mem_singleton] at hb
    intro e
    exact get_none.1 hn (by rw [← hb, ← e]; exact ha)
  · rcases List.mem_append.1 hq with hq | hq
    · exact h.2.2 q hq
    · rw [List.mem_singleton.1 hq]; exact h1
theorem fit_own {O : List Pp} (h : Own8 O) : Fit8 O := ⟨by have := h.1; omega, h.2.2⟩
theorem fit_turn {O : List Pp} (h : Own8 O) (k : Nat) : Fit8 (O.drop k ++ O.take k) := by
  refine ⟨?_, fun p hp => ?_⟩
  · have := h.1
    rw [List.length_append, List.length_drop, List.length_take]; omega
  · rcases List.mem_append.1 hp with hp | hp
    · exact h.2.2 p (List.mem_of_mem_drop hp)
    · exact h.2.2 p (List.mem_of_mem_take hp)
theorem fit_more {O : List Pp} (h : Own8 O) : Fit8 ((nev8, nevV8) :: O) := by
  refine ⟨by have := h.1; rw [List.length_cons]; omega, fun p hp => ?_⟩
  rcases List.mem_cons.1 hp with rfl | hp
  · exact ⟨by simp [nev8], by simp [nevV8]⟩
  · exact h.2.2 p hp
theorem prs_drop (O : List Pp) (k : Nat) : prs (O.drop k) = (prs O).drop k := by simp [prs]
theorem prs_take (O : List Pp) (k : Nat) : prs (O.take k) = (prs O).take k := by simp [prs]
theorem xp_parts (x : Xp) : ∃ (s n : ByteArray) (e : Int), expV x = .tuple #[.string s, .int .i64 e, .string n] := by
  cases x <;> exact ⟨_, _, _, rfl⟩
theorem tup_inj {s n s' n' : ByteArray} {e e' : Int} (h : Value.tuple #[.string s, .int .i64 e, .string n] = .tuple #[.string s', .int .i64 e', .string n']) : s = s' ∧ e = e' := by
  cases h; exact ⟨rfl, rfl⟩
theorem rowS_at {w w' : World} {v : Value} {l : List (List UInt8)} {a : Option Addr} {c : Nat} {i : Nat} {n : List UInt8} (h : RowS w v l w') (hv : v = .slice a l.length c) (hi : l[i]? = some n) : ∃ g, a = some ⟨g, 0, none⟩ ∧ w'.cell? ⟨g, i, none⟩ = some (.string (str n)) := by
  obtain ⟨g, cap, hvf, _, _⟩ := h.1.form (by have := (List.getElem?_eq_some_iff.1 hi).1; omega)
  rw [hv] at hvf
  cases hvf
  refine ⟨g, rfl, ?_⟩
  have h1 := h.1.cells (g := g) (by rw [hv]; rfl) i (.string (str n)) (by unfold strVs; rw [List.getElem?_map, hi]; rfl)
  rw [add_q] at h1
  exact h1
theorem rowS_len {w w' : World} {v : Value} {l : List (List UInt8)} (h : RowS w v l w') : l.length ≤ 9223372036854775807 := by
  rcases h.1.2 with ⟨_, h0⟩ | ⟨g, cap, cur, _, _, _, h1, h4, _⟩
  · omega
  · unfold maxLen at h4; omega
theorem nev_eq (n : List UInt8) : ((str n).toList == [110, 101, 118, 101, 114, 32, 123]) = decide (n = nev8) := by
  rw [ByteArray.toList_eq, toList_str]
  by_cases h : n = nev8
  · rw [decide_eq_true h, h]; rfl
  · rw [decide_eq_false h, beq_eq_false_iff_ne]; exact h
theorem own_turn {w : World} {base q : Nat} {v : Value} {O : List Pp} (h : w.ownsRow base 33 2 v (0 + ((prs O).drop q).length + ((prs O).take q).length) (([] ++ rowPr ((prs O).drop q)) ++ rowPr ((prs O).take q))) : w.ownsRow base 33 2 v (O.drop q ++ O.take q).length (rowPr (prs (O.drop q ++ O.take q))) := by
  have e : (O.drop q ++ O.take q).length = 0 + ((prs O).drop q).length + ((prs O).take q).length := by simp [prs]
  rw [e, prs_app, rowPr_app, prs_drop, prs_take]
  rw [List.nil_append] at h
  exact h
theorem own_more {w : World} {base : Nat} {v : Value} {O : List Pp} (h : w.ownsRow base 33 2 v (1 + (prs O).length) (prL ⟨str nev8, str nevV8⟩ ++ rowPr (prs O))) : w.ownsRow base 33 2 v (prs ((nev8, nevV8) :: O)).length (rowPr (prs ((nev8, nevV8) :: O))) := by
  have e : (prs ((nev8, nevV8) :: O)).length = 1 + (prs O).length := by simp [prs]; omega
  rw [e]
  exact h
/-- a new table asked once: nothing below is touched -/
theorem asked8 (L : List Pp) (hf : Fit8 L) (m : Int) (va : Value) (w : World) (ha : RdPs w va (prs L)) (hm : w.cell? ⟨0, 0, none⟩ = some (.int .i64 m)) :
    Calls Try.prog 22 #[va] w fun e w' => ∃ S : Tb, e = .returned (.pointer (some ⟨S.T, 0, none⟩)) ∧ Below w.heap.size w w' ∧
      ∀ (s : List UInt8), s.length ≤ 1000 → Calls Try.prog 23 #[.pointer (some ⟨S.T, 0, none⟩), .string (str s)] w' fun e w'' => e = .returned (expV (expandM8 (firsts [] L) s [])) ∧ Below w.heap.size w w'' := by
  refine (New8_any L va m w ha (by have := hf.1; omega) (fun p hp => (hf.2 p hp).1) hm).mono ?_
  rintro e w' ⟨S, rfl, hst, hSB, hb, _⟩
  refine ⟨S, rfl, hb, fun s hs => ?_⟩
  have h0 := hst.st (X := fun _ => False) rfl (fun _ h => h.elim)
  refine (Expand8_any S (firsts [] L) hf.ok (fun _ => False) [] w' s (by omega) (Q8.nil _ _) h0).mono ?_
  rintro e w'' ⟨rfl, _, hk⟩
  refine ⟨rfl, hb.trans ?_⟩
  rw [← hSB]
  exact hk.under (own8_base h0)
set_option maxRecDepth 100000 in
set_option maxHeartbeats 8000000 in
theorem walk_PropTurned (w : World) (m : Int) (hm : w.cell? ⟨0, 0, none⟩ = some (.int .i64 m)) (v0 : Value) (l0 : List Pr) (h0 : RdPs w v0 l0) (ok0 : ∀ p ∈ l0, okPr p) (at' : Int) (hat : 0 ≤ at' ∧ at' ≤ 18446744073709551615) (sa : ByteArray) (hsa : sa.size ≤ 9223372036854775807) :
    Calls Try.prog 8 #[v0, .int .u64 at', .string sa] w fun e w' => e = .returned (.bool true) ∧ Below w.heap.size w w' := by
  have HF := Lib.hid (few8_any l0 v0 w h0 ok0)
  have HM := Lib.hid hm
  have HLV := Lib.hid (fun w' (hb : Below w.heap.size w w') => lives8 m w' ((hb.cell (World.block_lt_of_cell? w _ hm)).trans hm))
  have HCA := Lib.hid (fun w => cutL8_eq sa hsa w)
  have hla := cut8_len sa
  generalize cut8 sa = a at HCA hla
  clear hm h0 ok0
  go_enter Try.func8, Try.ntmps8
  go_wp2_with fail
  refine HF.out.mono ?_
  rintro e w1 ⟨vL, L, rfl, hrow, hfit, hb1⟩
  obtain ⟨aL, cL, hvL⟩ := own_shape8 hrow
  have hpl : (prs L).length = L.length := prs_len L
  rw [hpl] at hvL
  subst hvL
  have HRL := Lib.hid (RdPs.of_own hrow)
  have HFIT := Lib.hid hfit
  have HB1 := Lib.hid hb1
  have hL60 : L.length ≤ 60 := hfit.1
  have hLI : (L.length : Int) ≤ 60 := by omega
  clear HF hrow hfit hb1 hpl
  go_upto_region 3 with fail
  go_loopw [7, 31] (fun t7 i wr => ∃ (k : Nat) (O : List Pp), k ≤ L.length ∧ i = .int .i64 k ∧ O.length ≤ k ∧ Own8 O ∧ wr.ownsRow w1.heap.size 33 2 t7 O.length (rowPr (prs O)) ∧ Below w1.heap.size w1 wr) (fun _ i _ => L.length - (intOf i).toNat)
  case atStart => exact ⟨0, [], by omega, rfl, by simp, ⟨by simp, by simp, by simp⟩, World.ownsRow_nil _ _ _ _, Below.refl _ _⟩
  case round =>
    obtain ⟨k, O, hk, rfl, hOk, hown8, how, hbw⟩ := hrel
    have HW8 := Lib.hid hown8
    have HO := Lib.hid how
    have HB := Lib.hid hbw
    clear hown8 how
    by_cases hlt : k < L.length
    · obtain ⟨x, hx⟩ : ∃ x, L[k]? = some x := ⟨_, List.getElem?_eq_getElem hlt⟩
      have hx' : (prs L)[k]? = some ⟨str x.1, str x.2⟩ := by unfold prs; rw [List.getElem?_map, hx]; rfl
      obtain ⟨a1, e1, p0, p1⟩ := RdSl.elem (HRL.out.below hbw (Nat.le_refl _)) hx'
      subst e1
      have hxk := HFIT.out.2 x (List.mem_of_getElem? hx)
      have hbb : Below wr.heap.size wr (wr.alloc (.cells #[.string (str x.1), .string (str x.2)] 33)) := (Below.refl _ _).alloc (Nat.le_refl _) _
      have hnew := heap_alloc_new wr (.cells #[.string (str x.1), .string (str x.2)] 33)
      have HO2 := Lib.hid (own_mvd8 HO.out hbb)
      have HBB := Lib.hid (HB.out.trans (hbb.mono HB.out.size))
      have hkI : (k : Int) < (L.length : Int) := by omega
      obtain ⟨xn, xv⟩ := x
      dsimp only at p0 p1 hxk hbb hnew HO2 HBB
      have HXK := Lib.hid hxk
      clear hbw hbb hx hx' HO HB hxk
      go_upto_region 5 with fail
      generalize wr.alloc (.cells #[.string (str xn), .string (str xv)] 33) = w2 at hnew HO2 HBB ⊢
      generalize wr.heap.size = P0 at hnew ⊢
      have r0 : w2.cell? ⟨P0, 0, none⟩ = some (.string (str xn)) := by rw [cell_of_row w2 P0 0 _ _ (0, 0) hnew]; rfl
      have r1 : w2.cell? ⟨P0, 1, none⟩ = some (.string (str xv)) := by rw [cell_of_row w2 P0 1 _ _ (0, 0) hnew]; rfl
      obtain ⟨a7, c7, ht7⟩ := own_shape8 HO2.out
      subst ht7
      have HAT := Lib.hid (At_any (prs O) (str xn) (.slice a7 O.length c7) w2 (RdPs.of_own (by rw [prs_len]; exact HO2.out)))
      clear p0 p1 hnew
      by_cases h20 : k < 20
      · have h20I : (k : Int) < 20 := by omega
        have hsz : ((str xv).size : Int) = (xv.length : Int) := by rw [size_str]
        by_cases h100 : xv.length ≤ 100
        · have h100I : (xv.length : Int) ≤ 100 := by omega
          cases hg : getM O xn with
          | some u =>
            obtain ⟨i, hi, _⟩ := at_some hg
            have hpos : ¬ (i : Int) < 0 := by omega
            clear hg
            go_wp2_with fail
            refine HAT.out.mono ?_
            rintro e w3 ⟨rfl, hb3⟩
            rw [hi]
            clear hi
            have HO3 := Lib.hid (own_mvd8 HO2.out hb3)
            have HB3 := Lib.hid (HBB.out.trans (hb3.mono HBB.out.size))
            clear hb3
            go_wp2
            go_roundw
            case rel => exact ⟨k + 1, O, by omega, by go_num, by omega, HW8.out, HO3.out, HB3.out⟩
            case measure => simp [intOf]; omega
          | none =>
            have hai := at_none hg
            have HW9 := Lib.hid (HW8.out.snoc (p := (xn, xv)) (by omega) hg HXK.out)
            have hneg : (-1 : Int) < 0 := by omega
            generalize (-1 : Int) = neg at hneg hai
            clear hg
            go_wp2_with fail
            refine HAT.out.mono ?_
            rintro e w3 ⟨rfl, hb3⟩
            rw [hai]
            clear hai
            have HO3 := Lib.hid (own_mvd8 HO2.out hb3)
            have HB3 := Lib.hid (HBB.out.trans (hb3.mono HBB.out.size))
            have q0 := (hb3.cell (World.block_lt_of_cell? w2 _ r0)).trans r0
            have q1 := (hb3.cell (World.block_lt_of_cell? w2 _ r1)).trans r1
            have hO20 : O.length ≤ 100000 := by omega
            clear hb3 r0 r1 HO2 HBB
            go_wp2_with (at_builtin
                         refine app_propL rfl (.tmp 51) (.tmp 53) rfl w3 ⟨str xn, str xv⟩ rfl rfl HO3.out hO20 HB3.out.size ?_)
            intro g6 q6 w6 ho6 hg6 hl6
            have HFIN := Lib.hid (show w6.ownsRow w1.heap.size 33 2 (.slice (some ⟨g6, 0, none⟩) (O.length + 1) q6) (O ++ [(xn, xv)]).length (rowPr (prs (O ++ [(xn, xv)]))) from by
              rw [List.length_append, List.length_singleton, prs_app, rowPr_app]
              have : rowPr (prs [(xn, xv)]) = prL ⟨str xn, str xv⟩ := by simp [rowPr, prs]
              rw [this]
              exact ho6)
            have HB6 := Lib.hid (HB3.out.grown hg6 HB3.out.size (fun k hk => (HO3.out.lt k hk).1))
            clear ho6 hg6 hl6 HO3 HB3 q0 q1
            go_wp2
            go_roundw
            case rel => exact ⟨k + 1, _, by omega, by go_num, by rw [List.length_append, List.length_singleton]; omega, HW9.out, HFIN.out, HB6.out⟩
            case measure => simp [intOf]; omega
        · have h100I : ¬ (xv.length : Int) ≤ 100 := by omega
          clear HAT
          go_wp2
          go_roundw
          case rel => exact ⟨k + 1, O, by omega, by go_num, by omega, HW8.out, HO2.out, HBB.out⟩
          case measure => simp [intOf]; omega
      · have h20I : ¬ (k : Int) < 20 := by omega
        clear HAT r0 r1
        go_wp2
        go_roundw
        case rel => exact ⟨k + 1, O, by omega, by go_num, by omega, HW8.out, HO2.out, HBB.out⟩
        case measure => simp [intOf]; omega
    · have hle : (L.length : Int) ≤ k := by omega
      obtain ⟨wA, hwA⟩ : ∃ wA, wA = wr := ⟨_, rfl⟩
      subst hwA
      have HBW := Lib.hid (HB1.out.trans (HB.out.mono HB1.out.size))
      have hRO := RdPs.of_own (l := prs O) (by rw [prs_len]; exact HO.out)
      obtain ⟨a7, c7, ht7⟩ := own_shape8 HO.out
      subst ht7
      have HRO := Lib.hid hRO
      have hO20 : O.length ≤ 20 := HW8.out.1
      clear hbw HO HB HRL HFIT hRO
      go_upto_region 9 with fail
      clear hle hlt hk hLI hL60
      obtain ⟨pb, hpb⟩ : ∃ pb, pb = decide (0 < O.length) := ⟨_, rfl⟩
      have HPB := Lib.hid hpb
      go_cut [58] from 28 to 59 (fun t wx => t = .bool pb ∧ wx = wA)
      case first =>
        clear hpb
        go_wp2_with fail
        go_meet
        exact ⟨by rw [HPB.out], rfl⟩
      case rest =>
      obtain ⟨rfl, hwc⟩ := hcut
      obtain rfl : wA = wc := hwc.symm
      clear hwc hpb
      go_upto_if 58 with fail
      go_cut [10] from 28 to 65 (fun t wx => ∃ q : Nat, q ≤ O.length ∧ t = .int .i64 q ∧ wx = wA)
      case first =>
        cases pb with
        | true =>
          have hp : 0 < O.length := by have := HPB.out; simpa using this.symm
          have hpI : (0 : Int) < (O.length : Int) := by omega
          obtain ⟨q, hq⟩ : ∃ q : Nat, at' % (O.length : Int) = (q : Int) := ⟨(at' % (O.length : Int)).toNat, by have := Int.emod_nonneg at' (b := (O.length : Int)) (by omega); omega⟩
          have hqlt : q < O.length := by have := Int.emod_lt_of_pos at' hpI; omega
          have hqt : at'.tmod (O.length : Int) = (q : Int) := by rw [Int.tmod_eq_emod_of_nonneg hat.1]; exact hq
          have hwu : IntKind.u64.wrap (O.length : Int) = (O.length : Int) := by unfold IntKind.wrap; simp [IntKind.bits, IntKind.signed]; omega
          have hwq : IntKind.i64.wrap (q : Int) = (q : Int) := by rw [IntWalk.i64_in _ (by omega)]
          have hwq2 : IntKind.u64.wrap (q : Int) = (q : Int) := by unfold IntKind.wrap; simp [IntKind.bits, IntKind.signed]; omega
          have hne : ¬ (O.length : Int) = 0 := by omega
          have HQ := Lib.hid hqlt
          clear hqlt
          go_wp2_with fail
          go_meet
          exact ⟨q, by have := HQ.out; omega, rfl, rfl⟩
        | false =>
          go_wp2_with fail
          go_meet
          exact ⟨0, by omega, rfl, rfl⟩
      case rest =>
      obtain ⟨q, hq, rfl, hwc⟩ := hcut
      obtain rfl : wA = wc := hwc.symm
      clear hwc HPB
      obtain ⟨vF, hsF, hrF⟩ := slice_from8 HRO.out (k := q) (by rw [prs_len]; exact hq)
      obtain ⟨vU, hsU, hrU⟩ := slice_upto8 HRO.out (k := q) (by rw [prs_len]; exact hq)
      have HRF := Lib.hid hrF
      have HRU := Lib.hid hrU
      have hlF : ((prs O).drop q).length = O.length - q := by rw [List.length_drop, prs_len]
      have hlU : ((prs O).take q).length = q := by rw [List.length_take, prs_len]; omega
      have HLF := Lib.hid hlF
      have HLU := Lib.hid hlU
      have hqI : (q : Int) ≤ (O.length : Int) := by omega
      clear hrF hrU hlF hlU
      go_upto_region 11 with fail
      go_cut [11] from 28 to 74 (fun t wx => wx.ownsRow wA.heap.size 33 2 t (O.drop q ++ O.take q).length (rowPr (prs (O.drop q ++ O.take q))) ∧ Below wA.heap.size wA wx)
      case first =>
        go_region_law (first
          | (refine step_apps (.tmp 65) (.tmp 68) rfl rfl (v := .slice (some ⟨wA.heap.size, 0, none⟩) 0 0) (by simp [Act.eval, Act.put]) ((prs O).drop q) vF (by simp [Act.eval, Act.put]) (own_empty8 (q := wA.heap.size) wA.heap.size (Nat.le_refl _) (heap_alloc_new _ _)) (HRF.out.below (B := wA.heap.size) (by repeat (first | exact Below.refl _ _ | refine Below.drew ?_ | refine Below.alloc ?_ (by simp) _)) (Nat.le_refl _)) (by omega) (by rw [HLF.out]; omega) (by simp) ?_; intro v5 w5 ho5 hg5; have HO5 := Lib.hid ho5; have HG5 := Lib.hid hg5; clear ho5 hg5)
          | (have HB5 := Lib.hid (show Below wA.heap.size wA w5 from Below.grown (by repeat (first | exact Below.refl _ _ | refine Below.drew ?_ | refine Below.alloc ?_ (by simp) _)) HG5.out (by simp) (fun k hk => by simp [Value.ownBlock] at hk; omega)); refine step_apps (.tmp 69) (.tmp 72) rfl rfl (v := v5) (by simp [Act.eval, Act.put]) ((prs O).take q) vU (by simp [Act.eval, Act.put]) (by first | exact HO5.out | exact own_mvd8 HO5.out (Below.refl _ _).drew) (HRU.out.below (B := wA.heap.size) (by repeat (first | exact HB5.out | refine Below.drew ?_)) (Nat.le_refl _)) (by rw [HLF.out]; omega) (by rw [HLU.out]; omega) (by simpa using HB5.out.size) ?_; intro v6 w6 ho6 hg6; have HO6 := Lib.hid ho6; have HG6 := Lib.hid hg6; clear ho6 hg6))
        all_goals
          have HFIN := Lib.hid (And.intro (own_turn HO6.out) (Below.grown (by repeat (first | exact HB5.out | refine Below.drew ?_)) HG6.out (by simpa using HB5.out.size) (fun k hk => (HO5.out.lt k hk).1)))
          go_wp2_with fail
          go_meet
          exact HFIN.out
      case rest =>
      obtain ⟨hTr, hTb⟩ := hcut
      have HTR := Lib.hid hTr
      have HTB := Lib.hid hTb
      clear hTr hTb hsF hsU HRF HRU HLF HLU
      generalize hT : O.drop q ++ O.take q = T at HTR
      have HFT := Lib.hid (show Fit8 T from by rw [← hT]; exact fit_turn HW8.out q)
      have HGT := Lib.hid (show ∀ n, getM (firsts [] T) n = getM (firsts [] O) n from fun n => by rw [firsts_get, firsts_get, ← hT]; exact (turn_get HW8.out.2.1 q n).symm)
      clear hT
      have HON := Lib.hid (show (wc.alloc (.cells #[.string ⟨#[110, 101, 118, 101, 114, 32, 123]⟩, .string ⟨#[36, 123, 110, 101, 118, 101, 114, 32, 123, 125]⟩] 33)).ownsRow wc.heap.size 33 2 (.slice (some ⟨wc.heap.size, 0, none⟩) 1 1) 1 (prL ⟨str nev8, str nevV8⟩) from
        World.ownsRow_lit (base := wc.heap.size) (e := 33) (size := 2) wc #[.string ⟨#[110, 101, 118, 101, 114, 32, 123]⟩, .string ⟨#[36, 123, 110, 101, 118, 101, 114, 32, 123, 125]⟩] 1 (Nat.le_refl _) (by decide) rfl)
      have hba : Below wc.heap.size wc (wc.alloc (.cells #[.string ⟨#[110, 101, 118, 101, 114, 32, 123]⟩, .string ⟨#[36, 123, 110, 101, 118, 101, 114, 32, 123, 125]⟩] 33)) := (Below.refl _ _).alloc (Nat.le_refl _) _
      have HBA := Lib.hid hba
      have hRO2 := HRO.out.below (HTB.out.trans (hba.mono HTB.out.size)) (Nat.le_refl _)
      have HRO2 := Lib.hid hRO2
      have hO1 : (prs O).length ≤ 100000 := by rw [prs_len]; omega
      clear hba hRO2
      go_wp2_with (at_builtin
                   refine wpList_apps rfl (.tmp 75) (.tmp 76) rfl rfl (prs O) (.slice a7 O.length c7) rfl HON.out HRO2.out (by omega) hO1 (by simp) ?_)
      intro vM wM hoM hgM
      have HMR := Lib.hid (RdPs.of_own (own_more hoM))
      have HMB := Lib.hid (HTB.out.trans ((HBA.out.grown hgM (by simp) (fun k hk => by simp [Value.ownBlock] at hk; omega)).mono HTB.out.size))
      have HTR2 := Lib.hid (RdPs.below (RdPs.of_own (show wc.ownsRow _ _ 2 _ (prs T).length (rowPr (prs T)) from by rw [prs_len]; exact HTR.out)) (HBA.out.grown hgM (by simp) (fun k hk => by simp [Value.ownBlock] at hk; omega)) (Nat.le_refl _))
      have HRO3 := Lib.hid (HRO.out.below HMB.out (Nat.le_refl _))
      have HMW := Lib.hid (HBW.out.trans (HMB.out.mono HBW.out.size))
      clear hoM hgM HON HBA HRO2 HTR HTB HRO HBW HMB HB1
      have hmM : ∀ w', Below wM.heap.size wM w' → w'.cell? ⟨0, 0, none⟩ = some (.int .i64 m) := fun w' hb => by
        have hb' := HMW.out.trans (hb.mono HMW.out.size)
        exact (hb'.cell (World.block_lt_of_cell? w _ HM.out)).trans HM.out
      have HMM := Lib.hid hmM
      have HA1 := Lib.hid (asked8 O (fit_own HW8.out) m _ wM HRO3.out (hmM _ (Below.refl _ _)))
      clear hmM
      go_wp2_with fail
      refine HA1.out.mono ?_
      rintro e w2 ⟨S1, rfl, hb2, hx2⟩
      have HX := Lib.hid (hx2 a hla)
      clear hx2 HA1
      go_wp2_with fail
      refine (HCA.out _).mono ?_
      rintro e w2a ⟨rfl, hwa⟩
      obtain rfl : w2 = w2a := hwa.symm
      clear hwa
      go_wp2_with fail
      refine HX.out.mono ?_
      rintro e w3 ⟨rfl, hb3⟩
      have HB3 := Lib.hid hb3
      clear hb2 hb3 HX
      have HXB := Lib.hid (show expandM8 (firsts [] T) a [] = expandM8 (firsts [] O) a [] from expand_congr HGT.out a [])
      obtain ⟨s1, n1, e1, hx1⟩ := xp_parts (expandM8 (firsts [] O) a [])
      have HX1 := Lib.hid hx1
      rw [hx1]
      clear hx1
      have HA2 := Lib.hid (asked8 T HFT.out m _ w3 (HTR2.out.below HB3.out (Nat.le_refl _)) (HMM.out _ HB3.out))
      go_wp2_with fail
      refine HA2.out.mono ?_
      rintro e w4 ⟨S2, rfl, hb4, hx4⟩
      have HX := Lib.hid (hx4 a hla)
      clear hx4 HA2
      go_wp2_with fail
      refine (HCA.out _).mono ?_
      rintro e w4a ⟨rfl, hwa⟩
      obtain rfl : w4 = w4a := hwa.symm
      clear hwa
      go_wp2_with fail
      refine HX.out.mono ?_
      rintro e w5 ⟨rfl, hb5⟩
      have HB5 := Lib.hid (HB3.out.trans (hb5.mono HB3.out.size))
      clear hb4 hb5 HX
      rw [HXB.out, HX1.out]
      have HA3 := Lib.hid (asked8 ((nev8, nevV8) :: O) (fit_more HW8.out) m _ w5 (HMR.out.below HB5.out (Nat.le_refl _)) (HMM.out _ HB5.out))
      go_wp2_with fail
      refine HA3.out.mono ?_
      rintro e w6 ⟨S3, rfl, hb6, hx6⟩
      have HX := Lib.hid (hx6 a hla)
      clear hx6 HA3
      go_wp2_with fail
      refine (HCA.out _).mono ?_
      rintro e w6a ⟨rfl, hwa⟩
      obtain rfl : w6 = w6a := hwa.symm
      clear hwa
      go_wp2_with fail
      refine HX.out.mono ?_
      rintro e w7 ⟨rfl, hb7⟩
      have HB7 := Lib.hid (HB5.out.trans (hb7.mono HB5.out.size))
      clear hb6 hb7 HX
      obtain ⟨s3, n3, e3, hx3⟩ := xp_parts (expandM8 (firsts [] ((nev8, nevV8) :: O)) a [])
      have HX3 := Lib.hid hx3
      rw [hx3]
      clear hx3
      go_wp2_with fail
      refine (HCA.out _).mono ?_
      rintro e w7a ⟨rfl, hwa⟩
      obtain rfl : w7 = w7a := hwa.symm
      clear hwa
      have HRF := Lib.hid (refRefs8_any a (by omega) w7)
      go_wp2_with fail
      refine HRF.out.mono ?_
      rintro e w8 ⟨vr, rfl, hr⟩
      have HR := Lib.hid hr
      have HB8 := Lib.hid (HMW.out.trans ((HB7.out.trans (hr.2.mono HB7.out.size)).mono HMW.out.size))
      have HRO8 := Lib.hid (HRO3.out.below (HB7.out.trans (hr.2.mono HB7.out.size)) (Nat.le_refl _))
      have HEX := Lib.hid (show nev8 ∉ refsM (a.length + 1) a → (∀ p ∈ O, nev8 ∉ refsM (p.2.length + 1) p.2) → s3 = s1 ∧ e3 = e1 from fun h1 h2 => by
        have e := expand_ext (L := firsts [] O) (M := firsts [] ((nev8, nevV8) :: O)) (X := nev8) (fun n hn => by rw [firsts_get, firsts_get]; exact more_get O nev8 nevV8 n hn) (fun n v hg => by
          rw [firsts_get] at hg
          exact h2 _ (get_mem hg)) h1 []
        have e2 := HX3.out
        rw [← e, HX1.out] at e2
        obtain ⟨q1, q2⟩ := tup_inj e2
        exact ⟨q1.symm, q2.symm⟩)
      have hnl := rowS_len hr
      generalize refsM (a.length + 1) a = ns at HR HEX hnl
      obtain ⟨ar, cr, hvr⟩ := own_shape8 HR.out.1
      subst hvr
      have hnlI : (ns.length : Int) ≤ 9223372036854775807 := by omega
      have hOI : (O.length : Int) ≤ 20 := by omega
      clear hr HRF HX1 HX3 HXB HB3 HB5 HB7 HMW HRO3 HTR2 HMR HFT HGT HMM
      generalize e1 = e1 at *
      go_upto_region 17 with fail
      go_loopw [109] (fun i wq => ∃ j : Nat, j ≤ ns.length ∧ i = .int .i64 j ∧ wq = w8 ∧ ∀ n ∈ ns.take j, n ≠ nev8) (fun i _ => ns.length - (intOf i).toNat)
      case atStart => exact ⟨0, by omega, rfl, rfl, by simp⟩
      case round =>
        obtain ⟨j, hj, rfl, hwq, hno⟩ := hrel
        obtain rfl : w8 = wr := hwq.symm
        clear hwq
        have HNO := Lib.hid hno
        clear hno
        by_cases hjlt : j < ns.length
        · obtain ⟨n, hn⟩ : ∃ n, ns[j]? = some n := ⟨_, List.getElem?_eq_getElem hjlt⟩
          obtain ⟨g3, hg3, c3⟩ := rowS_at HR.out rfl hn
          subst hg3
          have hjI : (j : Int) < (ns.length : Int) := by omega
          have HNN := Lib.hid hn
          have hte := nev_eq n
          by_cases hnv : n = nev8
          · rw [decide_eq_true hnv] at hte
            have HLW := Lib.hid (HLV.out _ HB8.out)
            clear hn hnv
            go_wp2_with fail
            refine HLW.out.mono ?_
            rintro e w9 ⟨rfl, hb9⟩
            have HZ := Lib.hid (HB8.out.trans (hb9.mono HB8.out.size))
            clear hb9
            go_wp2
            go_ret
            exact ⟨rfl, HZ.out⟩
          · rw [decide_eq_false hnv] at hte
            have HN2 := Lib.hid (show ∀ d ∈ ns.take (j + 1), d ≠ nev8 from fun d hd => by
              rw [List.take_add_one, HNN.out, List.mem_append] at hd
              rcases hd with hd | hd
              · exact HNO.out d hd
              · simp at hd; rw [hd]; exact hnv)
            clear hn hnv
            go_wp2
            go_roundw
            case rel => exact ⟨j + 1, by omega, by go_num, (by first | trivial | rfl), HN2.out⟩
            case measure => simp [intOf]; omega
        · have hjle : (ns.length : Int) ≤ j := by omega
          have HEX2 := Lib.hid (HEX.out (fun h => HNO.out nev8 (by rw [List.take_of_length_le (by omega)]; exact h) rfl))
          clear HNO HEX HR
          have HBW8 := HB8
          clear HB8
          go_upto_region 23 with fail
          clear hjle hjlt hj hnlI hnl
          go_loopw [119] (fun i wq => ∃ j : Nat, j ≤ O.length ∧ i = .int .i64 j ∧ Below w8.heap.size w8 wq ∧ ∀ p ∈ O.take j, nev8 ∉ refsM (p.2.length + 1) p.2) (fun i _ => O.length - (intOf i).toNat)
          case atStart => exact ⟨0, by omega, rfl, Below.refl _ _, by simp⟩
          case round =>
            obtain ⟨j, hj, rfl, hbj, hnj⟩ := hrel
            have HNJ := Lib.hid hnj
            have HBJ := Lib.hid hbj
            clear hnj
            by_cases hjlt : j < O.length
            · obtain ⟨x, hx⟩ : ∃ x, O[j]? = some x := ⟨_, List.getElem?_eq_getElem hjlt⟩
              have hx' : (prs O)[j]? = some ⟨str x.1, str x.2⟩ := by unfold prs; rw [List.getElem?_map, hx]; rfl
              obtain ⟨a1, e9, p0, p1⟩ := RdSl.elem (HRO8.out.below hbj (Nat.le_refl _)) hx'
              subst e9
              have hxk := HW8.out.2.2 x (List.mem_of_getElem? hx)
              have hjI : (j : Int) < (O.length : Int) := by omega
              have HXX := Lib.hid hx
              obtain ⟨xn, xv⟩ := x
              dsimp only at p0 p1 hxk
              have hbb : Below wr.heap.size wr (wr.alloc (.cells #[.string (str xn), .string (str xv)] 33)) := (Below.refl _ _).alloc (Nat.le_refl _) _
              have hnew := heap_alloc_new wr (.cells #[.string (str xn), .string (str xv)] 33)
              have HBB := Lib.hid (HBJ.out.trans (hbb.mono HBJ.out.size))
              clear hbj hbb hx hx' HBJ
              go_upto_region 25 with fail
              generalize wr.alloc (.cells #[.string (str xn), .string (str xv)] 33) = w9 at hnew HBB ⊢
              generalize wr.heap.size = P0 at hnew ⊢
              have r0 : w9.cell? ⟨P0, 0, none⟩ = some (.string (str xn)) := by rw [cell_of_row w9 P0 0 _ _ (0, 0) hnew]; rfl
              have r1 : w9.cell? ⟨P0, 1, none⟩ = some (.string (str xv)) := by rw [cell_of_row w9 P0 1 _ _ (0, 0) hnew]; rfl
              clear p0 p1 hnew
              have HRG := Lib.hid (refRefs8_any xv (by omega) w9)
              go_wp2_with fail
              refine HRG.out.mono ?_
              rintro e w10 ⟨vq, rfl, hrq⟩
              have HRQ := Lib.hid hrq
              have HBQ := Lib.hid (HBB.out.trans (hrq.2.mono HBB.out.size))
              have q0 := (hrq.2.cell (World.block_lt_of_cell? w9 _ r0)).trans r0
              have hql := rowS_len hrq
              have HXJ := Lib.hid (show nev8 ∉ refsM (xv.length + 1) xv → ∀ p ∈ O.take (j + 1), nev8 ∉ refsM (p.2.length + 1) p.2 from fun h p hp => by
                rw [List.take_add_one, HXX.out, List.mem_append] at hp
                rcases hp with hp | hp
                · exact HNJ.out p hp
                · simp at hp; rw [hp]; exact h)
              generalize refsM (xv.length + 1) xv = nq at HRQ HXJ hql
              obtain ⟨aq, cq, hvq⟩ := own_shape8 HRQ.out.1
              subst hvq
              have hqlI : (nq.length : Int) ≤ 9223372036854775807 := by omega
              clear hrq r0 r1 HRG HBB
              go_upto_region 26 with fail
              go_loopw [127] (fun i wz => ∃ y : Nat, y ≤ nq.length ∧ i = .int .i64 y ∧ wz = w10 ∧ ∀ n ∈ nq.take y, n ≠ nev8) (fun i _ => nq.length - (intOf i).toNat)
              case atStart => exact ⟨0, by omega, rfl, rfl, by simp⟩
              case round =>
                obtain ⟨y, hy, rfl, hwz, hno⟩ := hrel
                obtain rfl : w10 = wr := hwz.symm
                clear hwz
                have HNO := Lib.hid hno
                clear hno
                by_cases hylt : y < nq.length
                · obtain ⟨n, hn⟩ : ∃ n, nq[y]? = some n := ⟨_, List.getElem?_eq_getElem hylt⟩
                  obtain ⟨g3, hg3, c3⟩ := rowS_at HRQ.out rfl hn
                  subst hg3
                  have hyI : (y : Int) < (nq.length : Int) := by omega
                  have HNN := Lib.hid hn
                  have hte := nev_eq n
                  have htx := nev_eq xn
                  have HLW := Lib.hid (HLV.out _ (HBW8.out.trans (HBQ.out.mono HBW8.out.size)))
                  have HZW := Lib.hid (HBW8.out.trans (HBQ.out.mono HBW8.out.size))
                  by_cases hnv : n = nev8
                  · rw [decide_eq_true hnv] at hte
                    clear hn hnv htx
                    go_wp2_with fail
                    refine HLW.out.mono ?_
                    rintro e w11 ⟨rfl, hb11⟩
                    have HZ := Lib.hid (HZW.out.trans (hb11.mono HZW.out.size))
                    clear hb11
                    go_wp2
                    go_ret
                    exact ⟨rfl, HZ.out⟩
                  · rw [decide_eq_false hnv] at hte
                    have HN2 := Lib.hid (show ∀ d ∈ nq.take (y + 1), d ≠ nev8 from fun d hd => by
                      rw [List.take_add_one, HNN.out, List.mem_append] at hd
                      rcases hd with hd | hd
                      · exact HNO.out d hd
                      · simp at hd; rw [hd]; exact hnv)
                    by_cases hxv : xn = nev8
                    · rw [decide_eq_true hxv] at htx
                      clear hn hnv hxv
                      go_wp2_with fail
                      refine HLW.out.mono ?_
                      rintro e w11 ⟨rfl, hb11⟩
                      have HZ := Lib.hid (HZW.out.trans (hb11.mono HZW.out.size))
                      clear hb11
                      go_wp2
                      go_ret
                      exact ⟨rfl, HZ.out⟩
                    · rw [decide_eq_false hxv] at htx
                      clear hn hnv hxv
                      go_wp2
                      go_roundw
                      case rel => exact ⟨y + 1, by omega, by go_num, (by first | trivial | rfl), HN2.out⟩
                      case measure => simp [intOf]; omega
                · have hyle : (nq.length : Int) ≤ y := by omega
                  have HXJ2 := Lib.hid (HXJ.out (fun h => HNO.out nev8 (by rw [List.take_of_length_le (by omega)]; exact h) rfl))
                  clear HNO HXJ HRQ q0
                  go_wp2
                  go_roundw
                  case rel => exact ⟨j + 1, by omega, by go_num, HBQ.out, HXJ2.out⟩
                  case measure => simp [intOf]; omega
            · have hjle : (O.length : Int) ≤ j := by omega
              obtain ⟨hs, he⟩ := HEX2.out (fun p hp => HNJ.out p (by rw [List.take_of_length_le (by omega)]; exact hp))
              subst hs
              subst he
              have hee : (e3 == e3) = true := by simp
              have hss : (s3.toList == s3.toList) = true := by simp
              have HZW := Lib.hid (HBW8.out.trans (HBJ.out.mono HBW8.out.size))
              have HLW := Lib.hid (HLV.out _ HZW.out)
              clear hbj HNJ HBJ HEX2
              go_wp2_with fail
              refine HLW.out.mono ?_
              rintro e w11 ⟨rfl, hb11⟩
              have HZ := Lib.hid (HZW.out.trans (hb11.mono HZW.out.size))
              clear hb11
              go_wp2
              go_ret
              exact ⟨rfl, HZ.out⟩

theorem laid_met_PropTurned (os : Os) : laidMet Try.prog Rows.propTurnedRow.laid ((laidWorld #[.slice none 0 0, .int .u64 0, .string .empty] os).forCall (fun _ _ => 0) ⟨#[], #[.slice none 0 0, .int .u64 0, .string .empty], []⟩).memory :=
  laidMet_of_run' 8 (by kernel_rfl) (by kernel_rfl)
theorem reads_PropTurned (os : Os) {H : Type} (enc : TypeId × Value → H) : ∃ places, DataW.whole enc Try.prog ((laidWorld #[.slice none 0 0, .int .u64 0, .string .empty] os).forCall (fun _ _ => 0) ⟨#[], #[.slice none 0 0, .int .u64 0, .string .empty], []⟩).memory Try.f8.params.toList Rows.propTurnedSpec.vars false (#[.slice none 0 0, .int .u64 0, .string .empty] : Array Value).toList 8 = some ([.nil, .lit (.int .u64 0), .lit (.string [])], [], places) :=
  ⟨[], by kernel_rfl⟩
set_option maxRecDepth 100000 in
theorem lifted_PropTurned (os : Os) (started : os.Started) (H : Type) (enc : TypeId × Value → H) (F : Stop.Interp) :
    ReturnsInHanded {} Try.checked os 8 .any ((OpenSpec.ofChange Rows.propTurnedSpec).preRow enc Try.prog Try.f8 Rows.propTurnedRow.domain false Rows.propTurnedRow.laid) (((OpenSpec.ofChange Rows.propTurnedSpec).at F).post enc Try.prog Try.f8 false true false false) := by
  obtain ⟨places, hx⟩ := reads_PropTurned os enc
  refine returnsInHanded_of_row (C := Try.checked) (s := OpenSpec.ofChange Rows.propTurnedSpec) own_knob started (by kernel_rfl) Try.func8
    (witness_row_at (enc := enc) (C := Try.checked) false (laidWorld #[.slice none 0 0, .int .u64 0, .string .empty] os) #[.slice none 0 0, .int .u64 0, .string .empty] rfl (by kernel_rfl) (by kernel_rfl) (by kernel_rfl)
      (OpenSpec.preRow_of_cond 8 hx (by kernel_rfl) (fun k hk => by cases hk) (by kernel_rfl) (laid_met_PropTurned os))) ?_
  intro W base args ds gs before hval0 hW _ _ _ _ hsh _
  have hval : ∀ (j : Nat) t v, Try.f8.params[j]? = some t → args[j]? = some v → Value.okWide Try.prog W .any base t v := hval0
  obtain ⟨m, hm⟩ := maxLen_cell W hsh
  have hW' := hW
  obtain ⟨p, q, hA0, hV, rfl, _, _⟩ := hW
  have hA : DataW.TrodAll enc Try.prog W 0 (fun _ => true) true Try.f8.params.toList args.toList ds p := hA0
  rw [Try.params8] at hA hval
  obtain ⟨v0, vs0, d0, ds0, p0, q0, hargs, rfl, rfl, h0, r0⟩ := trodAll_cons hA
  obtain ⟨v1, vs1, d1, ds1, p1, q1, rfl, rfl, rfl, h1, r1⟩ := trodAll_cons r0
  obtain ⟨v2, vs2, d2, ds2, p2, q2, rfl, rfl, rfl, h2, r2⟩ := trodAll_cons r1
  obtain ⟨rfl, rfl, rfl⟩ := trodAll_nil r2
  obtain rfl : args = #[v0, v1, v2] := by cases args; simp_all
  obtain ⟨rfl, rfl⟩ := trodVars_none hV
  obtain ⟨l0, g0, w0⟩ := open_props (hval 0 27 v0 rfl rfl) h0
  obtain ⟨a1, rfl, rfl, rfl, w1⟩ := open_int Try.underlying53 (hval 1 53 v1 rfl rfl) h1
  obtain ⟨a2, rfl, rfl, rfl, w2⟩ := open_string Try.underlying9 (hval 2 9 v2 rfl rfl) h2
  clear hA0 hval0
  refine (walk_PropTurned W m hm v0 l0 g0 w0 a1 (wf_u64 w1) a2 (by unfold maxLen at w2; exact w2)).mono fun e W' ⟨he, hb⟩ => ?_
  subst he
  exact ⟨_, rfl, law_post (by kernel_rfl) rfl rfl rfl hW' hb⟩
/-- the statement of PropTurned -/
theorem proved_PropTurned : Rows.PropTurnedSaid :=
  OpenClaim.holds_of_cond 8 Try.f8 rfl rfl rfl rfl rfl rfl rfl ⟨rfl, rfl, rfl, rfl, rfl⟩ rfl rfl rfl rfl rfl (by kernel_rfl) Try.func8 (by kernel_rfl)
    (of_decide_eq_true (by kernel_rfl)) (by unfold Func.isWrapper; first | (rw [if_pos (by decide +kernel)]; kernel_rfl) | (rw [if_neg (by decide +kernel)]; exact ⟨rfl, rfl⟩))
    (fun os started H enc _ F => by rw [OpenClaim.pre_eq_preRow]; exact lifted_PropTurned os started H enc F)
end Go.Proofs.Ythfholnnkdoagaa
