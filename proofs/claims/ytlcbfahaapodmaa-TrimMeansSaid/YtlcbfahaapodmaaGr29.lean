/-
  Layer 29: Grow. Own work.
-/
import Derived.Test.YtlcbfahaapodmaaTw29
import Derived.Laws.CopyOwn
namespace Go.Proofs.Ytlcbfahaapodmaa
set_option linter.unusedVariables false
set_option linter.unusedSimpArgs false
open Go.RowKit

/-- a literal in truths -/
def setT (g : List Bool) (n : Int) : List Bool := if 0 < n.natAbs ∧ n.natAbs ≤ g.length then g.set (n.natAbs - 1) (decide (0 < n)) else g
theorem setT_len (g : List Bool) (n : Int) : (setT g n).length = g.length := by
  unfold setT
  split <;> simp
def growM (V : Nat) (ts : List Bool) (fx : List Int) : List Bool := fx.foldl setT ((ts.take V) ++ List.replicate (V - ts.length) false)
theorem grow_len (V : Nat) (ts : List Bool) (fx : List Int) : (growM V ts fx).length = V := by
  unfold growM
  induction fx using snoc_ind with
  | h0 => simp; omega
  | h1 l n ih => rw [List.foldl_append]; exact (setT_len _ _).trans ih
theorem grow_snoc (V : Nat) (ts : List Bool) (l : List Int) (n : Int) : growM V ts (l ++ [n]) = setT (growM V ts l) n := by simp [growM]
/-- a row of truths of one's own -/
def RowT (w : World) (B X : Nat) (bs : List Bool) : Prop := w.ownsRow B 4 1 (.slice (some ⟨X, 0, none⟩) bs.length bs.length) bs.length (bs.map bV)
theorem RowT.put {w : World} {B X : Nat} {bs : List Bool} (h : RowT w B X bs) {k : Nat} (hk : k < bs.length) (b : Bool) : w.frozen? ⟨X, k, none⟩ = false ∧ (∃ b0, w.cell? ⟨X, k, none⟩ = some (.bool b0)) ∧ RowT (w.setCell ⟨X, k, none⟩ (.bool b)) B X (bs.set k b) ∧ w.grownBy (w.setCell ⟨X, k, none⟩ (.bool b)) (some X) := by
  obtain ⟨h1, h2⟩ := World.ownsRow.stored h k (.bool b)
  refine ⟨?_, ?_, ?_, h2⟩
  · obtain ⟨_, h4⟩ := h
    rcases h4 with ⟨h, _⟩ | ⟨g, cap, cur, h3, h4, h5, h6, h7, h8, h9⟩
    · cases h
    · cases h3
      exact frozen_of_row w X k _ _ h5
  · have h3 := RdO.of (e := 4) h
    rcases h3 with ⟨⟨a, h3⟩, h4⟩ | ⟨g, cap, h3, _, _, _, h5⟩
    · have : bs = [] := List.map_eq_nil_iff.1 h4
      subst this
      simp at hk
    · injection h3 with h3 _ _
      cases h3
      exact ⟨bs[k], (h5 k (bV bs[k]) (by rw [List.getElem?_map, List.getElem?_eq_getElem hk]; rfl)).1⟩
  · unfold RowT
    rw [List.length_set, List.map_set]
    exact h1
section
variable {w : World}
set_option maxHeartbeats 1000000 in
set_option maxRecDepth 100000 in
theorem Grow29_any (vars : Int) (cv fv tv : Value) (fx : List Int) (ts : List Bool) (hv : vars ≤ 1000) (hf : Reads w iV fv fx) (ht : Reads w bV tv ts) (hfl : fx.length ≤ 1000) (hfn : ∀ n ∈ fx, -1000 ≤ n ∧ n ≤ 1000) (htl : ts.length ≤ 1000) :
    Calls Try.prog 13 #[.agg #[.int .i64 vars, cv, fv], tv] w fun e w' => Below w.heap.size w w' ∧
      ((vars ≤ 0 ∧ e = .returned (.slice none 0 0)) ∨ (0 < vars ∧ ∃ X, e = .returned (.slice (some ⟨X, 0, none⟩) vars.toNat vars.toNat) ∧ RowT w' w.heap.size X (growM vars.toNat ts fx))) := by
  by_cases hv0 : vars ≤ 0
  · have hb : Below w.heap.size w (w.alloc (.cells #[.int .i64 vars, cv, fv] 29)) := (Below.refl _ _).alloc (Nat.le_refl _) _
    have HB := Lib.hid hb
    clear hf ht hb
    go_enter Try.func13, Try.ntmps13
    go_wp2
    go_ret
    exact ⟨HB.out, .inl ⟨hv0, rfl⟩⟩
  · obtain ⟨V, hV⟩ : ∃ V : Nat, vars = (V : Int) := ⟨vars.toNat, by omega⟩
    subst hV
    have hV6 : V ≤ 1000 := by omega
    have hV0 : 0 < V := by omega
    have hg : w.grownBy (w.alloc (.cells #[.int .i64 (V : Int), cv, fv] 29)) none := World.grownBy_alloc _ _ _
    have HF := Lib.hid (hf.below (Below.refl w.heap.size w |>.alloc (Nat.le_refl _) (.cells #[.int .i64 (V : Int), cv, fv] 29)) (Nat.le_refl _))
    have HT := Lib.hid (ht.below (Below.refl w.heap.size w |>.alloc (Nat.le_refl _) (.cells #[.int .i64 (V : Int), cv, fv] 29)) (Nat.le_refl _))
    obtain ⟨i0, hi, hz0, hz1, hz2⟩ : ∃ i, Try.prog.info? 4 = some i ∧ i.zero = some (.bool false) ∧ i.size = 1 ∧ i.bytes = 1 := info_parts (by kernel_rfl)
    have hc0 : (w.alloc (.cells #[.int .i64 (V : Int), cv, fv] 29)).cell? ⟨w.heap.size, 0, none⟩ = some (.int .i64 (V : Int)) := cell_of_row _ _ 0 _ _ (0, 0) (heap_alloc_new _ _)
    have hc2 : (w.alloc (.cells #[.int .i64 (V : Int), cv, fv] 29)).cell? ⟨w.heap.size, 2, none⟩ = some fv := cell_of_row _ _ 2 _ _ (0, 0) (heap_alloc_new _ _)
    have HB0 := Lib.hid (Below.refl w.heap.size w |>.alloc (Nat.le_refl _) (.cells #[.int .i64 (V : Int), cv, fv] 29))
    have hsz : w.heap.size < (w.alloc (.cells #[.int .i64 (V : Int), cv, fv] 29)).heap.size := by simp
    clear hf ht hg
    go_enter Try.func13, Try.ntmps13
    go_upto_region 3 with fail
    generalize w.alloc (.cells #[.int .i64 (V : Int), cv, fv] 29) = W1 at HF HT HB0 hc0 hc2 hsz ⊢
    have hbW : w.heap.size ≤ W1.heap.size := Nat.le_of_lt hsz
    obtain ⟨fa, fc, rfl, hfc⟩ : ∃ fa fc, fv = .slice fa fx.length fc ∧ ∀ (j : Nat) n, fx[j]? = some n → ∃ ad, fa = some ad ∧ ad.block < W1.heap.size ∧ W1.cell? (ad.add j) = some (.int .i64 n) ∧ (ad.add j).block = ad.block := by
      rcases HF.out with ⟨rfl, rfl⟩ | ⟨a, cap, rfl, h1, h2, h3⟩
      · exact ⟨none, 0, rfl, fun j b h => by simp at h⟩
      · refine ⟨some a, cap, rfl, fun j b h => ⟨a, rfl, ?_, h3 j b h, ?_⟩⟩
        · have h4 := World.block_lt_of_cell? W1 _ (h3 j b h)
          have h5 : (a.add j).block = a.block := by unfold Addr.add; split <;> rfl
          rw [h5] at h4
          omega
        · unfold Addr.add; split <;> rfl
    have HFC := Lib.hid hfc
    clear hfc
    go_wp2_with (at_make; refine wpList_make_full _ rfl _ _ 40 rfl W1.heap.size 4 i0 (.bool false) 1 Try.underlying40 hi hz0 hz1 .i64 .i64 _ _ V rfl rfl rfl rfl (by rw [hz2]; omega) (by unfold maxLen; omega) (Nat.le_refl _) ?_)
    intro w3 hown hgrow
    have hxs : (madeCells #[Value.bool false] V).toList = (List.replicate V false).map bV := by
      rw [show (List.replicate V false).map bV = List.replicate V (.bool false) from by simp [bV]]
      exact toList_madeCells_one _ _
    rw [hxs] at hown
    have hb3 : Below W1.heap.size W1 w3 := (Below.refl _ _).grown hgrow (Nat.le_refl _) (fun k h => by cases h)
    have HF3 := Lib.hid (HF.out.below hb3 (Nat.le_refl _))
    have HT3 := Lib.hid (HT.out.below hb3 (Nat.le_refl _))
    have hd2 : w3.cell? ⟨w.heap.size, 2, none⟩ = some (.slice fa fx.length fc) := (hb3.cell (World.block_lt_of_cell? W1 _ hc2)).trans hc2
    have HB13' := hb3
    have HB3 := Lib.hid (show Below w.heap.size w w3 from HB0.out.trans (hb3.mono hbW))
    obtain ⟨hl1, hl2⟩ := hown
    obtain ⟨cur, hcur, hcs⟩ : ∃ cur : Array Value, w3.heap[W1.heap.size]? = some (.cells cur 4 (0, 0)) ∧ cur.toList = (List.replicate V false).map bV := by
      rcases hl2 with ⟨h, _⟩ | ⟨g, cap, cur, h3, h4, h5, h6, h7, h8, h9⟩
      · cases h
      · cases h3
        rw [Nat.mul_one] at h8 h9
        exact ⟨cur, h5, by rw [← h9, List.take_of_length_le (by simpa using Nat.le_of_eq h8)]⟩
    have hcur2 : w3.heap[W1.heap.size]? = some (.cells ((List.replicate V false).map bV).toArray 4 (0, 0)) := by rw [hcur, ← hcs]
    have hmx : w3.heap.size ≥ W1.heap.size := hb3.size
    clear hgrow hl1 hl2 hb3 hcur hcs hxs hi hz0 hz1 hz2
    generalize hX : W1.heap.size = X at hcur2 hmx HB13' ⊢
    have HB13 := Lib.hid HB13'
    clear HB13'
    have hXw : w.heap.size < X := by omega
    obtain ⟨ta, tc, rfl, htc⟩ : ∃ ta tc, tv = .slice ta ts.length tc ∧ ∀ (j : Nat) b, ts[j]? = some b → ∃ ad, ta = some ad ∧ w3.cell? (ad.add j) = some (.bool b) := by
      rcases HT3.out with ⟨rfl, rfl⟩ | ⟨a, cap, rfl, h1, h2, h3⟩
      · exact ⟨none, 0, rfl, fun j b h => by simp at h⟩
      · exact ⟨some a, cap, rfl, fun j b h => ⟨a, rfl, h3 j b h⟩⟩
    have HTC := Lib.hid htc
    have HC2 := Lib.hid hcur2
    clear htc hcur2
    go_upto_region 4 with fail
    go_wp2_with (refine wpList_copy_splice rfl _ _ 40 40 rfl 4 Try.underlying40 (by kernel_rfl) (some ⟨X, 0, none⟩) ta V V ts.length tc (by rfl) (by rfl) X 0 ((List.replicate V false).map bV) 4 HC2.out ((ts.take V).map bV) (by simp [Nat.min_comm]) ?_ (by simp; omega) (by intro v hv; obtain ⟨b, _, rfl⟩ := List.mem_map.1 hv; rfl) X w3 (Below.refl _ _) (Nat.le_refl _) ?_)
    · intro hp
      have hp2 : 0 < ts.length := by
        have : 0 < min V ts.length := by simpa using hp
        omega
      obtain ⟨ad, rfl, _⟩ := HTC.out 0 ts[0] (List.getElem?_eq_getElem hp2)
      refine ⟨ad, rfl, fun j v hj => ?_⟩
      rw [← List.map_take, List.getElem?_map, List.getElem?_take] at hj
      by_cases hjV : j < V
      · rw [if_pos hjV] at hj
        cases hq : ts[j]? with
        | none => rw [hq] at hj; simp at hj
        | some b =>
          rw [hq] at hj
          simp at hj
          obtain ⟨ad2, e, h2⟩ := HTC.out j b hq
          cases e
          rw [h2, ← hj]; rfl
      · rw [if_neg hjV] at hj; simp at hj
    · intro w4 hh hb4
      have hsp : splice ((List.replicate V false).map bV) 0 ((ts.take V).map bV) = (growM V ts []).map bV := by
        unfold splice growM
        simp only [List.take_zero, List.nil_append, List.foldl_nil, List.map_append, List.length_map, List.length_take, Nat.zero_add]
        congr 1
        rw [← List.map_drop, List.drop_replicate]
        congr 2
        omega
      have hgl : (growM V ts []).length = V := grow_len _ _ _
      have HR4 := Lib.hid (show RowT w4 w.heap.size X (growM V ts []) from by
        have h1 := hh.out
        rw [← List.map_take, ← List.map_replicate, hsp] at h1
        refine ⟨by simp, .inr ⟨X, _, _, rfl, Nat.le_of_lt hXw, h1, Nat.le_refl _, by unfold maxLen; rw [hgl]; omega, by simp, by rw [Nat.mul_one, List.take_of_length_le (by simp)]⟩⟩)
      have HB4 := Lib.hid (show Below w.heap.size w w4 from HB3.out.trans (hb4.mono (Nat.le_of_lt hXw)))
      have HBX := Lib.hid (show Below X W1 w4 from HB13.out.trans hb4)
      have hfI : (fx.length : Int) ≤ 1000 := by omega
      have hd4 : w4.cell? ⟨w.heap.size, 2, none⟩ = some (.slice fa fx.length fc) := (hb4.cell (show w.heap.size < X from hXw)).trans hd2
      clear hsp hb4 hh
      go_wp2_with fail
      go_loopw [7, 8, 23] (fun z7 z8 q wr => ∃ j : Nat, j ≤ fx.length ∧ q = .int .i64 j ∧ RowT wr w.heap.size X (growM V ts (fx.take j)) ∧ Below w.heap.size w wr ∧ Below X W1 wr) (fun _ _ q _ => fx.length - (intOf q).toNat)
      case atStart => exact ⟨0, by omega, rfl, HR4.out, HB4.out, HBX.out⟩
      case round =>
        obtain ⟨j, hj, rfl, hrow, hbw, hbx⟩ := hrel
        have HROW := Lib.hid hrow
        have HBW := Lib.hid hbw
        have HBX2 := Lib.hid hbx
        by_cases hlt : j < fx.length
        · obtain ⟨n, hn⟩ : ∃ n, fx[j]? = some n := ⟨_, List.getElem?_eq_getElem hlt⟩
          obtain ⟨ad, rfl, hadX, hac, hab⟩ := HFC.out j n hn
          have hac2 : wr.cell? (ad.add j) = some (.int .i64 n) := (hbx.cell (by rw [hab, ← hX]; exact hadX)).trans hac
          have hn2 := hfn n (List.mem_of_getElem? hn)
          have hgl2 : (growM V ts (fx.take j)).length = V := grow_len _ _ _
          have HT := Lib.hid (show growM V ts (fx.take (j + 1)) = setT (growM V ts (fx.take j)) n from by rw [take_snoc _ j n hn, grow_snoc])
          have hjI : (j : Int) < (fx.length : Int) := by omega
          clear hrow hbw hbx hac hn
          rcases Int.lt_trichotomy n 0 with hs | hs | hs
          · obtain ⟨k, hk⟩ : ∃ k : Nat, (k : Int) = -n := ⟨(-n).toNat, by omega⟩
            have hneg : IntKind.i64.wrap (-n) = (k : Int) := by rw [hk]; exact IntWalk.i64_in _ ⟨by omega, by omega⟩
            obtain ⟨m, hm⟩ : ∃ m : Nat, k = m + 1 := ⟨k - 1, by omega⟩
            have HNA := Lib.hid (show n.natAbs = k from by omega)
            have hlt2 : n < (k : Int) := by omega
            have hk0 : (0 : Int) < (k : Int) := by omega
            have hk6 : (k : Int) ≤ 1000 := by omega
            have hn0 : ¬ 0 < n := by omega
            have hn1 : n ≤ 0 := by omega
            clear hk
            by_cases hkV : k ≤ V
            · obtain ⟨p1, ⟨b0, p2⟩, p3, p4⟩ := HROW.out.put (k := m) (by rw [hgl2]; omega) false
              have HE := Lib.hid (show growM V ts (fx.take (j + 1)) = (growM V ts (fx.take j)).set m false from by
                rw [HT.out]; unfold setT
                rw [if_pos (by rw [HNA.out, hgl2]; omega), HNA.out, show k - 1 = m from by omega, decide_eq_false (by omega)])
              have HP3 := Lib.hid p3
              have HB5 := Lib.hid (show Below w.heap.size w (wr.setCell ⟨X, m, none⟩ (.bool false)) from HBW.out.grown p4 HBW.out.size (fun k hk => by cases hk; exact Nat.le_of_lt hXw))
              have HB6 := Lib.hid (show Below X W1 (wr.setCell ⟨X, m, none⟩ (.bool false)) from HBX2.out.grown p4 (by rw [← hX]; exact HBX2.out.size) (fun k hk => by cases hk; exact Nat.le_refl _))
              have hkI : (k : Int) ≤ (V : Int) := by omega
              have hmI : (m : Int) < (V : Int) := by omega
              have hmk : (k : Int) - 1 = (m : Int) := by omega
              clear p3 p4 hkV hm
              go_wp2_with fail
              go_round
              case rel => exact ⟨j + 1, by omega, by go_num, by rw [HE.out]; exact HP3.out, HB5.out, HB6.out⟩
              case measure => simp [intOf]; omega
            · have HE := Lib.hid (show growM V ts (fx.take (j + 1)) = growM V ts (fx.take j) from by rw [HT.out]; unfold setT; rw [if_neg (by rw [HNA.out, hgl2]; omega)])
              have hkI : (V : Int) < (k : Int) := by omega
              clear hkV hm
              go_wp2_with fail
              go_round
              case rel => exact ⟨j + 1, by omega, by go_num, by rw [HE.out]; exact HROW.out, HBW.out, HBX2.out⟩
              case measure => simp [intOf]; omega
          · subst hs
            have HE := Lib.hid (show growM V ts (fx.take (j + 1)) = growM V ts (fx.take j) from by rw [HT.out]; unfold setT; rw [if_neg (by simp)])
            go_wp2_with fail
            go_round
            case rel => exact ⟨j + 1, by omega, by go_num, by rw [HE.out]; exact HROW.out, HBW.out, HBX2.out⟩
            case measure => simp [intOf]; omega
          · obtain ⟨k, hk⟩ : ∃ k : Nat, n = (k : Int) := ⟨n.toNat, by omega⟩
            subst hk
            obtain ⟨nn, hnn⟩ : ∃ nn : Int, nn = -(k : Int) := ⟨_, rfl⟩
            have hneg : IntKind.i64.wrap (-(k : Int)) = nn := by rw [hnn]; exact IntWalk.i64_in _ ⟨by omega, by omega⟩
            obtain ⟨m, hm⟩ : ∃ m : Nat, k = m + 1 := ⟨k - 1, by omega⟩
            have HNA := Lib.hid (show (k : Int).natAbs = k from by omega)
            have hlt2 : nn < (k : Int) := by omega
            have hk6 : (k : Int) ≤ 1000 := by omega
            clear hnn
            by_cases hkV : k ≤ V
            · obtain ⟨p1, ⟨b0, p2⟩, p3, p4⟩ := HROW.out.put (k := m) (by rw [hgl2]; omega) true
              have HE := Lib.hid (show growM V ts (fx.take (j + 1)) = (growM V ts (fx.take j)).set m true from by
                rw [HT.out]; unfold setT
                rw [if_pos (by rw [HNA.out, hgl2]; omega), HNA.out, show k - 1 = m from by omega, decide_eq_true (by omega)])
              have HP3 := Lib.hid p3
              have HB5 := Lib.hid (show Below w.heap.size w (wr.setCell ⟨X, m, none⟩ (.bool true)) from HBW.out.grown p4 HBW.out.size (fun k hk => by cases hk; exact Nat.le_of_lt hXw))
              have HB6 := Lib.hid (show Below X W1 (wr.setCell ⟨X, m, none⟩ (.bool true)) from HBX2.out.grown p4 (by rw [← hX]; exact HBX2.out.size) (fun k hk => by cases hk; exact Nat.le_refl _))
              have hkI : (k : Int) ≤ (V : Int) := by omega
              have hmI : (m : Int) < (V : Int) := by omega
              have hmk : (k : Int) - 1 = (m : Int) := by omega
              clear p3 p4 hkV hm
              go_wp2_with fail
              go_round
              case rel => exact ⟨j + 1, by omega, by go_num, by rw [HE.out]; exact HP3.out, HB5.out, HB6.out⟩
              case measure => simp [intOf]; omega
            · have HE := Lib.hid (show growM V ts (fx.take (j + 1)) = growM V ts (fx.take j) from by rw [HT.out]; unfold setT; rw [if_neg (by rw [HNA.out, hgl2]; omega)])
              have hkI : (V : Int) < (k : Int) := by omega
              clear hkV hm
              go_wp2_with fail
              go_round
              case rel => exact ⟨j + 1, by omega, by go_num, by rw [HE.out]; exact HROW.out, HBW.out, HBX2.out⟩
              case measure => simp [intOf]; omega
        · have hjI : (fx.length : Int) ≤ (j : Int) := by omega
          have HFIN := Lib.hid (show RowT wr w.heap.size X (growM V ts fx) from by
            rw [List.take_of_length_le (by omega)] at hrow; exact hrow)
          clear hrow hbw hbx
          go_wp2
          go_ret
          refine ⟨HBW.out, .inr ⟨by omega, X, ?_, ?_⟩⟩
          · rfl
          · exact HFIN.out
end
end Go.Proofs.Ytlcbfahaapodmaa
