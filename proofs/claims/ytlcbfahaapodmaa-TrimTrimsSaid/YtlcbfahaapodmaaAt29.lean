/-
  Layer 29: at and first. Own work.
-/
import Derived.Test.YtlcbfahaapodmaaWk29
import Derived.Deep.CutRange
import Derived.Deep.Cut
import Derived.Deep.RegionHeld3
import Derived.Deep.QuietTactic
import Derived.BigQuiet
namespace Go.Proofs.Ytlcbfahaapodmaa
set_option linter.unusedVariables false
set_option linter.unusedSimpArgs false
open Go.RowKit

section
variable {w : World} {n0 : Nat} {M : Wm} {S : Ws} {ex : Tw → Prop}
theorem KW.cVars (h : KW w n0 M S ex) (hx : ¬ ex .top) : w.cell? ⟨M.K, 0, none⟩ = some (.int .i64 (S.vars : Int)) := h.cell hx 0
theorem KW.cLst (h : KW w n0 M S ex) (hx : ¬ ex .top) : w.cell? ⟨M.K, 1, none⟩ = some (M.hd .lst) := h.cell hx 1
theorem KW.cGon (h : KW w n0 M S ex) (hx : ¬ ex .top) : w.cell? ⟨M.K, 2, none⟩ = some (M.hd .gon) := h.cell hx 2
theorem KW.cPl (h : KW w n0 M S ex) (hx : ¬ ex .top) : w.cell? ⟨M.K, 3, none⟩ = some (.bool S.pl) := h.cell hx 3
theorem KW.cEn (h : KW w n0 M S ex) (hx : ¬ ex .top) : w.cell? ⟨M.K, 4, none⟩ = some (.bool S.en) := h.cell hx 4
theorem KW.cFix (h : KW w n0 M S ex) (hx : ¬ ex .top) : w.cell? ⟨M.K, 5, none⟩ = some (M.hd .fix) := h.cell hx 5
theorem KW.cNs (h : KW w n0 M S ex) (hx : ¬ ex .top) : w.cell? ⟨M.K, 6, none⟩ = some (.int .i64 (S.ns : Int)) := h.cell hx 6
theorem KW.cStd (h : KW w n0 M S ex) (hx : ¬ ex .top) : w.cell? ⟨M.K, 7, none⟩ = some (M.hd .std) := h.cell hx 7
theorem KW.cCnt (h : KW w n0 M S ex) (hx : ¬ ex .top) : w.cell? ⟨M.K, 8, none⟩ = some (M.hd .cnt) := h.cell hx 8
theorem KW.cBg (h : KW w n0 M S ex) (hx : ¬ ex .top) : w.cell? ⟨M.K, 9, none⟩ = some (.bool S.bg) := h.cell hx 9
theorem KW.cFirst (h : KW w n0 M S ex) (hx : ¬ ex .top) : w.cell? ⟨M.K, 10, none⟩ = some (.int .i64 (S.first : Int)) := h.cell hx 10
theorem KW.cLit (h : KW w n0 M S ex) (hx : ¬ ex .top) : w.cell? ⟨M.K, 11, none⟩ = some (.int .i64 S.lit) := h.cell hx 11
theorem KW.cNext (h : KW w n0 M S ex) (hx : ¬ ex .top) : w.cell? ⟨M.K, 12, none⟩ = some (.int .i64 (S.next : Int)) := h.cell hx 12
theorem KW.cMem (h : KW w n0 M S ex) (hx : ¬ ex .top) : w.cell? ⟨M.K, 13, none⟩ = some (M.hd .mem) := h.cell hx 13
theorem KW.cSig (h : KW w n0 M S ex) (hx : ¬ ex .top) : w.cell? ⟨M.K, 14, none⟩ = some (M.hd .sig) := h.cell hx 14
/-- the header of clause number i -/
theorem KW.clause (h : KW w n0 M S ex) (h1 : ¬ ex .lst) {i : Nat} (h2 : ¬ ex (.cl i)) {c : List Int} (hc : S.L[i]? = some c) :
    ∃ g cap, M.hd .lst = .slice (some ⟨g, 0, none⟩) S.L.length cap ∧ w.cell? ⟨g, i, none⟩ = some (M.hd (.cl i)) ∧ w.frozen? ⟨g, i, none⟩ = false ∧ M.tag g = .lst ∧ Reads w iV (M.hd (.cl i)) c ∧ ∃ a cp, M.hd (.cl i) = .slice a c.length cp := by
  have hi := (List.getElem?_eq_some_iff.1 hc).1
  obtain ⟨g, cap, e1, e2, e3, e4, _⟩ := h.at (t := .lst) rfl h1 (j := i) (x := M.hd (.cl i)) (by
    show ((List.range S.L.length).map fun i => M.hd (.cl i))[i]? = _
    rw [List.getElem?_map, List.getElem?_range hi]; rfl)
  have e5 : ctW S M.hd .lst = (List.range S.L.length).map fun i => M.hd (.cl i) := rfl
  rw [e5, List.length_map, List.length_range] at e1
  have hcl : ctW S M.hd (.cl i) = c.map iV := by
    show (S.L.getD i []).map iV = _
    rw [List.getD, hc]; rfl
  have hr := (h.row (.cl i) rfl h2).rd
  have hs := h.shape (t := .cl i) rfl h2
  rw [hcl] at hr hs
  rw [List.length_map] at hs
  exact ⟨g, cap, e1, e2, e3, e4, hr.reads, hs⟩
/-- whether clause number i is gone -/
theorem KW.goneAt (h : KW w n0 M S ex) (h1 : ¬ ex .gon) {i : Nat} {b : Bool} (hb : S.G[i]? = some b) :
    ∃ g cap, M.hd .gon = .slice (some ⟨g, 0, none⟩) S.G.length cap ∧ w.cell? ⟨g, i, none⟩ = some (.bool b) ∧ w.frozen? ⟨g, i, none⟩ = false ∧ M.tag g = .gon := by
  obtain ⟨g, cap, e1, e2, e3, e4, _⟩ := h.at (t := .gon) rfl h1 (j := i) (x := .bool b) (by
    show (S.G.map bV)[i]? = _
    rw [List.getElem?_map, hb]; rfl)
  have e5 : ctW S M.hd .gon = S.G.map bV := rfl
  rw [e5, List.length_map] at e1
  exact ⟨g, cap, e1, e2, e3, e4⟩
/-- the count at place a -/
theorem KW.cntAt (h : KW w n0 M S ex) (h1 : ¬ ex .cnt) {a : Nat} (ha : a < wide S) :
    ∃ g cap, M.hd .cnt = .slice (some ⟨g, 0, none⟩) (wide S) cap ∧ w.cell? ⟨g, a, none⟩ = some (.int .i64 (S.cn a)) ∧ w.frozen? ⟨g, a, none⟩ = false ∧ M.tag g = .cnt := by
  obtain ⟨g, cap, e1, e2, e3, e4, _⟩ := h.at (t := .cnt) rfl h1 (j := a) (x := .int .i64 (S.cn a)) (by
    show ((List.range (wide S)).map fun a => iV (S.cn a))[a]? = _
    rw [List.getElem?_map, List.getElem?_range ha]; rfl)
  have e5 : ctW S M.hd .cnt = (List.range (wide S)).map fun a => iV (S.cn a) := rfl
  rw [e5, List.length_map, List.length_range] at e1
  exact ⟨g, cap, e1, e2, e3, e4⟩
/-- the clauses in which place a stood -/
theorem KW.stand (h : KW w n0 M S ex) (h1 : ¬ ex .std) {a : Nat} (h2 : ¬ ex (.st a)) (ha : a < wide S) :
    ∃ g cap, M.hd .std = .slice (some ⟨g, 0, none⟩) (wide S) cap ∧ w.cell? ⟨g, a, none⟩ = some (M.hd (.st a)) ∧ w.frozen? ⟨g, a, none⟩ = false ∧ M.tag g = .std ∧ Reads w nV (M.hd (.st a)) (S.st a) ∧ ∃ b cp, M.hd (.st a) = .slice b (S.st a).length cp := by
  obtain ⟨g, cap, e1, e2, e3, e4, _⟩ := h.at (t := .std) rfl h1 (j := a) (x := M.hd (.st a)) (by
    show ((List.range (wide S)).map fun a => M.hd (.st a))[a]? = _
    rw [List.getElem?_map, List.getElem?_range ha]; rfl)
  have e5 : ctW S M.hd .std = (List.range (wide S)).map fun a => M.hd (.st a) := rfl
  rw [e5, List.length_map, List.length_range] at e1
  have hr := (h.row (.st a) rfl h2).rd
  have hs := h.shape (t := .st a) rfl h2
  have e6 : ctW S M.hd (.st a) = (S.st a).map nV := rfl
  rw [e6] at hr hs
  rw [List.length_map] at hs
  exact ⟨g, cap, e1, e2, e3, e4, hr.reads, hs⟩
set_option maxHeartbeats 2000000 in
theorem at29_any (h : KW w n0 M S ex) (hx : ¬ ex .top) (n : Int) (a : Nat) (ha : n + (S.vars : Int) = (a : Int)) (hb : a ≤ 1000000) :
    Calls Try.prog 34 #[.pointer (some ⟨M.K, 0, none⟩), .int .i64 n] w fun e w' => e = .returned (.int .i64 (a : Int)) ∧ w' = w := by
  have hc := h.cVars hx
  have hw : IntKind.i64.wrap (n + (S.vars : Int)) = (a : Int) := by rw [ha]; exact IntWalk.i64_in _ ⟨by omega, by omega⟩
  clear h ha
  go_enter Try.func34, Try.ntmps34
  go_wp2
  go_ret
  exact ⟨rfl, rfl⟩
/-- the first clause of so many literals that is there -/
def firstW (S : Ws) (z : Nat) : Option Nat := (List.range S.L.length).find? fun i => (S.L.getD i []).length == z && !(S.G.getD i false)
theorem firstW_hit {z i : Nat} {c : List Int} (hc : S.L[i]? = some c) (hg : S.G[i]? = some false) (hl : c.length = z) (hno : ∀ k, k < i → ¬ ((S.L.getD k []).length = z ∧ S.G.getD k false = false)) : firstW S z = some i := by
  unfold firstW
  have hi := (List.getElem?_eq_some_iff.1 hc).1
  rw [List.find?_range_eq_some]
  refine ⟨by simp [List.getD, hc, hg, hl], List.mem_range.2 hi, fun j hj => ?_⟩
  have := hno j hj
  have h3 : ((S.L.getD j []).length == z && !(S.G.getD j false)) = false := by
    cases hq : ((S.L.getD j []).length == z && !(S.G.getD j false)) with
    | false => rfl
    | true =>
      simp only [Bool.and_eq_true, beq_iff_eq, Bool.not_eq_true'] at hq
      exact absurd hq this
  rw [h3]; rfl
theorem firstW_no {z : Nat} (hno : ∀ k, k < S.L.length → ¬ ((S.L.getD k []).length = z ∧ S.G.getD k false = false)) : firstW S z = none := by
  unfold firstW
  rw [List.find?_eq_none]
  intro j hj
  have := hno j (List.mem_range.1 hj)
  simp only [Bool.and_eq_true, beq_iff_eq, Bool.not_eq_true']
  exact this
set_option maxHeartbeats 4000000 in
set_option maxRecDepth 100000 in
theorem first29_any (h : KW w n0 M S ex) (hx : ¬ ex .top) (h1 : ¬ ex .lst) (h2 : ¬ ex .gon) (h3 : ∀ i, ¬ ex (.cl i)) (z : Nat) (hz : z ≤ 1000) (hG : S.G.length = S.L.length) (hL : S.L.length ≤ 1000000) :
    Calls Try.prog 35 #[.pointer (some ⟨M.K, 0, none⟩), .int .i64 (z : Int)] w fun e w' => e = .returned (.tuple #[nV ((firstW S z).getD 0), .bool (firstW S z).isSome]) ∧ w' = w := by
  have hc1 := h.cLst hx
  have hc2 := h.cGon hx
  obtain ⟨la, lc, hl0⟩ := h.shape (t := .lst) rfl h1
  have e5 : ctW S M.hd .lst = (List.range S.L.length).map fun i => M.hd (.cl i) := rfl
  rw [e5, List.length_map, List.length_range] at hl0
  have H := Lib.hid h
  rw [hl0] at hc1
  clear h
  go_enter Try.func35, Try.ntmps35
  go_wp2_with fail
  go_loop [13] (fun i => ∃ k : Nat, k ≤ S.L.length ∧ i = .int .i64 k ∧ ∀ j, j < k → ¬ ((S.L.getD j []).length = z ∧ S.G.getD j false = false)) (fun i => S.L.length - (intOf i).toNat)
  case atStart => exact ⟨0, by omega, rfl, fun j hj => by omega⟩
  case round =>
    obtain ⟨k, hk, rfl, hno⟩ := hrel
    have HNO := Lib.hid hno
    clear hno
    by_cases hlt : k < S.L.length
    · obtain ⟨c, hc⟩ : ∃ c, S.L[k]? = some c := ⟨_, List.getElem?_eq_getElem hlt⟩
      obtain ⟨b, hb⟩ : ∃ b, S.G[k]? = some b := ⟨_, List.getElem?_eq_getElem (by omega)⟩
      obtain ⟨g, cap, e1, e2, e3, _, er, ca, cc, es⟩ := H.out.clause h1 (h3 k) hc
      obtain ⟨g2, cap2, f1, f2, f3, _⟩ := H.out.goneAt h2 hb
      rw [hl0] at e1
      cases e1
      rw [es] at e2
      rw [f1] at hc2
      have hltI : (k : Int) < (S.L.length : Int) := by omega
      have hgI : (k : Int) < (S.G.length : Int) := by omega
      have hGI : (S.G.length : Int) ≤ 1000000 := by omega
      have HC := Lib.hid hc
      have HB := Lib.hid hb
      clear hc hb er es f1
      obtain ⟨cl, hcl⟩ : ∃ cl : Nat, c.length = cl := ⟨_, rfl⟩
      rw [hcl] at e2
      have HCL := Lib.hid hcl
      clear hcl
      by_cases hlz : cl = z
      · cases b with
        | false =>
          have hlz' : ((cl : Int) == (z : Int)) = true := by rw [hlz]; simp
          have HV := Lib.hid (firstW_hit (S := S) HC.out HB.out (HCL.out.trans hlz) HNO.out)
          clear hlz
          go_wp2
          go_ret2
          refine ⟨?_, rfl⟩
          rw [HV.out]; rfl
        | true =>
          have hlz' : ((cl : Int) == (z : Int)) = true := by rw [hlz]; simp
          have HN := Lib.hid (show ∀ j, j < k + 1 → ¬ ((S.L.getD j []).length = z ∧ S.G.getD j false = false) from fun j hj => by
            by_cases hjk : j < k
            · exact HNO.out j hjk
            · have : j = k := by omega
              subst this
              rintro ⟨_, h⟩
              rw [List.getD, HB.out] at h
              cases h)
          clear hlz
          go_wp2
          go_round
          case rel => exact ⟨k + 1, by omega, by go_num, HN.out⟩
          case measure => simp [intOf]; omega
      · have hlz' : ((cl : Int) == (z : Int)) = false := by simp; omega
        have HN := Lib.hid (show ∀ j, j < k + 1 → ¬ ((S.L.getD j []).length = z ∧ S.G.getD j false = false) from fun j hj => by
          by_cases hjk : j < k
          · exact HNO.out j hjk
          · have : j = k := by omega
            subst this
            rintro ⟨h, _⟩
            rw [List.getD, HC.out] at h
            exact hlz (HCL.out.symm.trans h))
        clear hlz
        go_wp2
        go_round
        case rel => exact ⟨k + 1, by omega, by go_num, HN.out⟩
        case measure => simp [intOf]; omega
    · have hle : (S.L.length : Int) ≤ k := by omega
      have HV := Lib.hid (firstW_no (S := S) (z := z) (fun j hj => HNO.out j (by omega)))
      go_wp2
      go_ret2
      refine ⟨?_, rfl⟩
      rw [HV.out]; rfl
end
end Go.Proofs.Ytlcbfahaapodmaa
