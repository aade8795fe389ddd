/-
  Layer 21: the contract of the answer's Some, over rows of the call's own. Own work.
-/
import Derived.Test.YtlcbfahaapodmaaHold21
namespace Go.Proofs.Ytlcbfahaapodmaa
set_option linter.unusedVariables false
set_option linter.unusedSimpArgs false
open Go.RowKit

theorem bool_info : (Try.prog.info? 4).map (fun i => (i.zero, i.size, i.bytes)) = some (some (.bool false), 1, 1) := by kernel_rfl
/-- the truths that a number's bits are -/
def bitsN (vars m : Nat) : List Bool := (List.range vars).map fun v => m.testBit v
theorem bitsN_snoc (v m : Nat) : (bitsN (v + 1) m).map bV = (bitsN v m).map bV ++ [.bool (m.testBit v)] := by
  unfold bitsN
  rw [List.range_succ]
  simp [bV]
theorem bitsN_len (v m : Nat) : (bitsN v m).length = v := by unfold bitsN; simp
theorem bits_and_one (a : Nat) (ha : a < 9223372036854775808) : bits .and .i64 (a : Int) 1 = ((a % 2 : Nat) : Int) := by
  have hx : a &&& 1 < 2 ^ 64 := Nat.and_lt_two_pow _ (by omega)
  have h1 : (BitVec.ofInt 64 (a : Int)).toNat = a := by
    rw [BitVec.ofInt_natCast, BitVec.toNat_ofNat]; exact Nat.mod_eq_of_lt (by omega)
  have h2 : (BitVec.ofInt 64 1).toNat = 1 := by decide
  show IntKind.i64.wrap ((BitVec.ofInt 64 (a : Int) &&& BitVec.ofInt 64 1).toNat : Int) = _
  rw [BitVec.toNat_and, h1, h2, Nat.and_one_is_mod]
  exact IntWalk.i64_in _ ⟨by omega, by omega⟩
theorem bit_at (k q : Nat) (hk : k ≤ 1000000) : (bits BinOp.and IntKind.i64 ((k : Int) / 2 ^ q) 1 == 1) = k.testBit q := by
  have h0 : ((k : Int) / 2 ^ q) = ((k / 2 ^ q : Nat) : Int) := by simp
  have h1 : k / 2 ^ q ≤ k := Nat.div_le_self _ _
  rw [h0, bits_and_one _ (by omega), Nat.testBit_eq_decide_div_mod_eq]
  by_cases h : k / 2 ^ q % 2 = 1
  · rw [h]; rfl
  · rw [show k / 2 ^ q % 2 = 0 by omega]; rfl
def SRel (vars m : Nat) (w wr : World) (v i : Value) : Prop :=
  ∃ (q : Nat) (u : Value), u = v ∧ q ≤ vars ∧ i = .int .i64 q ∧ wr.ownsRow w.heap.size 4 1 u q ((bitsN q m).map bV) ∧ Below w.heap.size w wr
theorem reads_own {α : Type} {w : World} {f : α → Value} {v : Value} {xs : List α} {base e : Nat} (h : w.ownsRow base e 1 v xs.length (xs.map f)) : Reads w f v xs := by
  have h0 := h
  obtain ⟨_, hc⟩ := h
  rcases hc with ⟨rfl, hn⟩ | ⟨g, cap, cur, rfl, _, hg, hn, hcm, _, _⟩
  · have : xs = [] := List.eq_nil_of_length_eq_zero hn
    subst this
    exact .inl ⟨rfl, rfl⟩
  · refine .inr ⟨⟨g, 0, none⟩, cap, rfl, hn, by unfold maxLen at hcm; exact hcm, fun j x hx => h0.cells (g := g) rfl j (f x) (by rw [List.getElem?_map, hx]; rfl)⟩
theorem RowsAt.below' {w w' : World} {lo : Nat} {v : Value} {cs : List (List Int)} (h : RowsAt w lo v cs) (hb : Below w.heap.size w w') : RowsAt w' lo v cs := by
  obtain ⟨rows, h1, h2⟩ := h
  have hg : w.grownBy w' none := ⟨hb.os, hb.tape, hb.output, hb.size, fun k hk _ => hb.block k hk⟩
  refine ⟨rows, h1.kept hg (by cases hv : v.ownBlock <;> simp), fun j c hj => ?_⟩
  obtain ⟨r, a, b⟩ := h2 j c hj
  exact ⟨r, a, b.keep fun b0 cur hb0 => hb.block b0 (Array.getElem?_eq_some_iff.1 hb0).1⟩
set_option maxHeartbeats 2000000 in
theorem Some_any (cv : Value) (cs : List (List Int)) (vars : Nat) (hv : vars ≤ 13) (lo : Nat) (w : World) (hc : RowsAt w lo cv cs) (hn : cs.length ≤ 1000000) (hcl : ∀ (j : Nat) c, cs[j]? = some c → c.length ≤ 1000000) :
    Calls Try.prog 14 #[cv, .int .i64 vars] w fun e w' => e = .returned (.bool (decide (∃ m, m < 2 ^ vars ∧ ∀ c ∈ cs, anyT (bitsN vars m) c = true))) ∧ Below w.heap.size w w' := by
  obtain ⟨ca, cc, rfl⟩ := rows_shape hc
  have HC := Lib.hid hc; clear hc
  have HCL := Lib.hid hcl; clear hcl
  have hpw : (2 : Nat) ^ vars ≤ 8192 := Nat.le_trans (Nat.pow_le_pow_right (by omega) hv) (by decide)
  have hpw1 : 1 ≤ (2 : Nat) ^ vars := Nat.one_le_two_pow
  have hvi : (vars : Int) ≤ 13 := by omega
  obtain ⟨P, hP⟩ : ∃ P : Nat, 2 ^ vars = P := ⟨_, rfl⟩
  have hw : wrap64 ((2 : Int) ^ vars) = (P : Int) := by
    have h2 : ((2 : Int) ^ vars) = ((2 ^ vars : Nat) : Int) := by simp
    rw [h2, hP]
    unfold wrap64
    omega
  rw [hP] at hpw hpw1 ⊢
  clear hP
  go_enter Try.func14, Try.ntmps14
  go_wp2_with fail
  go_loopw [5] (fun i wr => ∃ k : Nat, k ≤ P ∧ i = .int .i64 k ∧ Below w.heap.size w wr ∧ ∀ m, m < k → ¬ ∀ c ∈ cs, anyT (bitsN vars m) c = true) (fun i _ => P - (intOf i).toNat)
  case atStart => exact ⟨0, by omega, rfl, Below.refl _ _, fun m h => by omega⟩
  case round =>
    rename World => W1
    obtain ⟨k, hk, rfl, hb, hno⟩ := hrel
    have HNO := Lib.hid hno; clear hno
    have HB := Lib.hid hb; clear hb
    by_cases hlt : k < P
    · have hlt' : (k : Int) < P := by omega
      go_wp2_with fail
      go_loopw [6, 7] (fun v i wr2 => SRel vars k W1 wr2 v i) (fun _ i _ => vars - (intOf i).toNat)
      case atStart => exact ⟨0, _, rfl, by omega, rfl, World.ownsRow_nil _ _ _ _, Below.refl _ _⟩
      case round =>
        obtain ⟨q, v, rfl, hq, rfl, hown, hb2⟩ := hrel
        by_cases hlt2 : q < vars
        · have hlt2' : (q : Int) < vars := by omega
          have HSN := Lib.hid (bitsN_snoc q k)
          have hbit := bit_at k q (by omega)
          go_wp2_with (at_builtin
                       refine app1 rfl _ _ 40 4 rfl (.bool false) 1 W1.heap.size q Try.underlying40 bool_info rfl v _ rfl hown rfl rfl (by omega) (by omega) hb2.size ?_)
          intro v' w' ho' hg' hb'
          go_wp2
          go_roundw
          case rel => (repeat apply Exists.intro); exact ⟨⟨q + 1, _, rfl, by omega, by go_num, by rw [HSN.out]; exact ho', hb2.trans hb'⟩, by rw [hw]; rfl⟩
          case measure => simp [intOf]; omega
        · have hql : q = vars := by omega
          have hvl : (vars : Int) ≤ q := by omega
          have hr : Reads wr bV v (bitsN vars k) := reads_own (base := W1.heap.size) (e := 4) (by rw [bitsN_len]; rw [← hql]; exact hown)
          have hB2 := HB.out.trans (hb2.mono HB.out.size)
          have hcall := Holds_any _ v cs (bitsN vars k) lo wr (HC.out.below' hB2) hr hn HCL.out
          have HCALL := Lib.hid hcall
          have HB2 := Lib.hid hB2
          obtain ⟨va, vc, rfl⟩ : ∃ a c, v = .slice a q c := by
            rcases hown.2 with ⟨h, h0⟩ | ⟨g, cap, cur, h, _⟩
            · exact ⟨none, 0, by rw [h, h0]⟩
            · exact ⟨_, _, h⟩
          clear hcall hB2 hown hb2 hr hql
          go_wp2_with fail
          refine HCALL.out.mono ?_
          rintro e w2 ⟨⟨r, rfl, hr⟩, rfl⟩
          by_cases hr0 : r < 0
          · have hall := hr.1 hr0
            have HALL := Lib.hid hall
            clear hall hr
            have hkP : k < P := hlt
            have HK := Lib.hid hkP
            go_wp2
            go_ret
            exact ⟨ret_bool (decide_eq_true ⟨k, HK.out, HALL.out⟩).symm, HB2.out⟩
          · have hall := fun h => hr0 (hr.2 h)
            have HALL := Lib.hid hall
            clear hall hr
            have hr1 : 0 ≤ r := by omega
            go_wp2
            go_roundw
            case rel => exact ⟨k + 1, by omega, by go_num, HB2.out, fun m hm => if h : m < k then HNO.out m h else by rw [show m = k by omega]; exact HALL.out⟩
            case measure => simp [intOf]; omega
    · have hPk : (P : Int) ≤ k := by omega
      have hno : ¬ ∃ m, m < P ∧ ∀ c ∈ cs, anyT (bitsN vars m) c = true := fun ⟨m, h1, h2⟩ => HNO.out m (by omega) h2
      have HN := Lib.hid (decide_eq_false hno)
      clear hno
      go_wp2
      go_ret
      exact ⟨ret_bool HN.out.symm, HB.out⟩
end Go.Proofs.Ytlcbfahaapodmaa
