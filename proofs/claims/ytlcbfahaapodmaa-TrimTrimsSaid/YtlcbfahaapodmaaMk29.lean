/-
  Layer 29: mark. Own work.
-/
import Derived.Test.YtlcbfahaapodmaaGd29
namespace Go.Proofs.Ytlcbfahaapodmaa
set_option linter.unusedVariables false
set_option linter.unusedSimpArgs false
open Go.RowKit

/-- the literals of c are marked -/
def markL (vars : Nat) (m : List Bool) (c : List Int) (b : Bool) : List Bool := c.foldl (fun m n => m.set (posN vars n) b) m
def markS (S : Ws) (i : Nat) (b : Bool) : Ws := if i < S.L.length then { S with mb := markL S.vars S.mb (S.L.getD i []) b } else S
theorem markL_len (vars : Nat) (m : List Bool) (c : List Int) (b : Bool) : (markL vars m c b).length = m.length := by
  unfold markL
  induction c generalizing m with
  | nil => rfl
  | cons n c ih => rw [List.foldl_cons, ih, List.length_set]
theorem markL_snoc (vars : Nat) (m : List Bool) (c : List Int) (n : Int) (b : Bool) : markL vars m (c ++ [n]) b = (markL vars m c b).set (posN vars n) b := by simp [markL]
def mkT : Tw → Prop := fun t => t = .mem
section
variable {w : World} {n0 : Nat} {M : Wm} {S : Ws} {ex : Tw → Prop}
theorem KW.memb (h : KW w n0 M S ex) (h2 : ¬ ex .mem) {a g cap : Nat} (hg : M.hd .mem = .slice (some ⟨g, 0, none⟩) S.mb.length cap) (b : Bool) :
    KW (w.setCell ⟨g, a, none⟩ (.bool b)) n0 M { S with mb := S.mb.set a b } ex := by
  refine h.put (t := .mem) rfl rfl h2 (cap := cap) (by rw [hg]; show _ = Value.slice _ (S.mb.map bV).length _; rw [List.length_map]) (.bool b) rfl rfl ?_ ?_
  · show (S.mb.set a b).map bV = (S.mb.map bV).set a (.bool b)
    rw [List.map_set]; rfl
  · intro s hs hne _
    cases s <;> first | rfl | exact absurd rfl hne
/-- whether place a is marked -/
theorem KW.memAt (h : KW w n0 M S ex) (h1 : ¬ ex .mem) {a : Nat} {b : Bool} (hb : S.mb[a]? = some b) :
    ∃ g cap, M.hd .mem = .slice (some ⟨g, 0, none⟩) S.mb.length cap ∧ w.cell? ⟨g, a, none⟩ = some (.bool b) ∧ w.frozen? ⟨g, a, none⟩ = false ∧ M.tag g = .mem := by
  obtain ⟨g, cap, e1, e2, e3, e4, _⟩ := h.at (t := .mem) rfl h1 (j := a) (x := .bool b) (by
    show (S.mb.map bV)[a]? = _
    rw [List.getElem?_map, hb]; rfl)
  have e5 : ctW S M.hd .mem = S.mb.map bV := rfl
  rw [e5, List.length_map] at e1
  exact ⟨g, cap, e1, e2, e3, e4⟩
set_option maxHeartbeats 4000000 in
set_option maxRecDepth 100000 in
theorem mark29_any (h : KW w n0 M S ex) (hx : ¬ ex .top) (h1 : ¬ ex .lst) (h2 : ¬ ex .mem) (h3 : ∀ i, ¬ ex (.cl i)) (i : Nat) (b : Bool) (hm : S.mb.length = wide S) (hL : S.L.length ≤ 1000000) (hi6 : i ≤ 1000000) (hv : S.vars ≤ 100000)
    (hl : ∀ c ∈ S.L, c.length ≤ 1000000 ∧ ∀ n ∈ c, -(S.vars : Int) ≤ n ∧ n ≤ (S.vars : Int)) :
    Calls Try.prog 44 #[.pointer (some ⟨M.K, 0, none⟩), .int .i64 (i : Int), .bool b] w fun e w' => e = .returned (.tuple #[]) ∧ KW w' n0 M (markS S i b) ex ∧ FrW M M mkT w w' := by
  have hc1 := h.cLst hx
  obtain ⟨la, lc, hl0⟩ := h.shape (t := .lst) rfl h1
  have e5 : ctW S M.hd .lst = (List.range S.L.length).map fun i => M.hd (.cl i) := rfl
  rw [e5, List.length_map, List.length_range] at hl0
  rw [hl0] at hc1
  have hLJ : (S.L.length : Int) ≤ 1000000 := by omega
  by_cases hi : i < S.L.length
  · obtain ⟨c, hc⟩ : ∃ c, S.L[i]? = some c := ⟨_, List.getElem?_eq_getElem hi⟩
    obtain ⟨g, cap, e1, e2, e3, _, er, ca, cc, es⟩ := h.clause h1 (h3 i) hc
    rw [hl0] at e1
    cases e1
    rw [es] at e2 er
    obtain ⟨hcl, hlit⟩ := hl c (List.mem_of_getElem? hc)
    have hD : markS S i b = { S with mb := markL S.vars S.mb c b } := by
      unfold markS
      rw [if_pos hi]
      simp [List.getD, hc]
    have HD := Lib.hid hD
    have HK := Lib.hid h
    have HC := Lib.hid hc
    have ES := Lib.hid es
    have hiI : (i : Int) < (S.L.length : Int) := by omega
    have hcI : (c.length : Int) ≤ 1000000 := by omega
    clear h hD er hl hc hl0
    go_enter Try.func44, Try.ntmps44
    go_wp2_with fail
    go_loopw [23] (fun q wr => ∃ k : Nat, k ≤ c.length ∧ q = .int .i64 k ∧ KW wr n0 M { S with mb := markL S.vars S.mb (c.take k) b } ex ∧ FrW M M mkT w wr) (fun q _ => c.length - (intOf q).toNat)
    case atStart => exact ⟨0, by omega, rfl, HK.out, FrW.refl _ _ _⟩
    case round =>
      obtain ⟨k, hk, rfl, hkk, hff⟩ := hrel
      have HF := Lib.hid hff
      by_cases hlt : k < c.length
      · obtain ⟨x, hxk⟩ : ∃ x, c[k]? = some x := ⟨_, List.getElem?_eq_getElem hlt⟩
        obtain ⟨b1, hb1, hxc⟩ : ∃ b1, ca = some b1 ∧ wr.cell? (b1.add k) = some (iV x) := by
          obtain ⟨_, _, _, _, _, _, hrd, _⟩ := hkk.clause h1 (h3 i) (i := i) (c := c) HC.out
          rw [ES.out] at hrd
          exact reads_elem hrd hxk
        subst hb1
        have hxc' : wr.cell? (b1.add k) = some (.int .i64 x) := hxc
        have hb2 := hlit x (List.mem_of_getElem? hxk)
        obtain ⟨a, ha⟩ : ∃ a : Nat, x + (S.vars : Int) = (a : Int) := ⟨(x + (S.vars : Int)).toNat, by omega⟩
        have hpa : posN S.vars x = a := by unfold posN; rw [ha]; simp
        have haw : a < 2 * S.vars + 1 := by omega
        have HAT := Lib.hid (at29_any hkk.drew hx x a ha (by omega))
        have hml : (markL S.vars S.mb (c.take k) b).length = wide S := by rw [markL_len, hm]
        obtain ⟨ob, hob⟩ : ∃ ob, (markL S.vars S.mb (c.take k) b)[a]? = some ob := ⟨_, List.getElem?_eq_getElem (by rw [hml]; exact haw)⟩
        obtain ⟨gc, cc2, k1, k2, k3, k4⟩ := hkk.drew.memAt h2 (a := a) (b := ob) hob
        have hcc := hkk.drew.cMem hx
        have hHN := hkk.drew.memb h2 (a := a) k1 b
        have k1 : M.hd .mem = .slice (some ⟨gc, 0, none⟩) (markL S.vars S.mb (c.take k) b).length cc2 := k1
        rw [k1, hml] at hcc
        have HKN := Lib.hid (show KW (wr.drew.setCell ⟨gc, a, none⟩ (.bool b)) n0 M { S with mb := markL S.vars S.mb (c.take (k + 1)) b } ex from by
          rw [take_snoc _ k x hxk, markL_snoc, hpa]
          exact hHN)
        have HFN := Lib.hid (show FrW M M mkT w (wr.drew.setCell ⟨gc, a, none⟩ (.bool b)) from hff.drew.trans (FrW.put (ts := mkT) _ M _ _ k4))
        have haI : (a : Int) < ((wide S : Nat) : Int) := by unfold wide; omega
        have hwI : ((wide S : Nat) : Int) ≤ 1000000 := by unfold wide; omega
        have hkI : (k : Int) < (c.length : Int) := by omega
        clear hkk hff hxk k1 hpa ha haw hb2 hxc hml hob hHN
        generalize hwd : wide S = wd at hcc haI hwI
        clear hwd hm
        go_wp2_with fail
        go_region_with (go_at_call 34; with_reducible refine HAT.out.mono ?_; rintro e w' ⟨rfl, rfl⟩)
        all_goals
          go_wp2_with fail
          go_round
          case rel => exact ⟨k + 1, by omega, by go_num, HKN.out, HFN.out⟩
          case measure => simp [intOf]; omega
      · have hkI : (c.length : Int) ≤ k := by omega
        have HN := Lib.hid (show KW wr n0 M (markS S i b) ex from by
          rw [HD.out]
          rw [List.take_of_length_le (by omega)] at hkk
          exact hkk)
        clear hkk hff
        go_wp2
        go_end0
        exact ⟨rfl, HN.out, HF.out⟩
  · have hiI : (S.L.length : Int) ≤ (i : Int) := by omega
    have HD := Lib.hid (show KW w n0 M (markS S i b) ex from by unfold markS; rw [if_neg hi]; exact h)
    clear h
    go_enter Try.func44, Try.ntmps44
    go_wp2
    go_end0
    exact ⟨rfl, HD.out, FrW.refl _ _ _⟩
end
end Go.Proofs.Ytlcbfahaapodmaa
