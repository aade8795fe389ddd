/-
  Layer 29: slices.Index and without. Own work.
-/
import Derived.Test.YtlcbfahaapodmaaLn29
import Derived.Deep.RegionLaw
namespace Go.Proofs.Ytlcbfahaapodmaa
set_option linter.unusedVariables false
set_option linter.unusedSimpArgs false
open Go.RowKit

theorem reads_shape {α : Type} {w : World} {f : α → Value} {v : Value} {l : List α} (h : Reads w f v l) : ∃ a c, v = .slice a l.length c ∧ l.length ≤ 9223372036854775807 ∧ ∀ (j : Nat) n, l[j]? = some n → ∃ b, a = some b ∧ w.cell? (b.add j) = some (f n) := by
  rcases h with ⟨rfl, rfl⟩ | ⟨a, cap, rfl, h1, h2, h3⟩
  · exact ⟨none, 0, rfl, by simp, fun j n h => by simp at h⟩
  · exact ⟨some a, cap, rfl, by omega, fun j n h => ⟨a, rfl, h3 j n h⟩⟩
/-- the place of the first n, or -1 -/
def indexM (l : List Int) (n : Int) : Int := if n ∈ l then (l.idxOf n : Int) else -1
set_option maxHeartbeats 2000000 in
theorem index29_any (vl : Value) (l : List Int) (n : Int) (w : World) (hl : Reads w iV vl l) :
    Calls Try.prog 37 #[vl, .int .i64 n] w fun e w' => e = .returned (.int .i64 (indexM l n)) ∧ w' = w := by
  obtain ⟨la, lc, rfl, hlen, hcell⟩ := reads_shape hl
  have hlI : (l.length : Int) ≤ 9223372036854775807 := by omega
  have HL := Lib.hid hcell
  clear hl hlen hcell
  go_enter Try.func37, Try.ntmps37
  go_wp2_with fail
  go_loop [8] (fun i => ∃ k : Nat, k ≤ l.length ∧ i = .int .i64 k ∧ n ∉ l.take k) (fun i => l.length - (intOf i).toNat)
  case atStart => exact ⟨0, by omega, rfl, by simp⟩
  case round =>
    obtain ⟨k, hk, rfl, hno⟩ := hrel
    have HNO := Lib.hid hno
    clear hno
    by_cases hlt : k < l.length
    · obtain ⟨x, hx⟩ : ∃ x, l[k]? = some x := ⟨_, List.getElem?_eq_getElem hlt⟩
      obtain ⟨b, rfl, hc⟩ := HL.out k x hx
      have HX := Lib.hid hx
      have hc2 : w.cell? (b.add k) = some (.int .i64 x) := hc
      have hkI : (k : Int) < (l.length : Int) := by omega
      clear hc hx
      by_cases he : n = x
      · have HV := Lib.hid (show indexM l n = (k : Int) from by
          unfold indexM
          rw [if_pos (by rw [he]; exact List.mem_of_getElem? HX.out)]
          have e1 : l = l.take k ++ n :: l.drop (k + 1) := by
            have h2 : l[k] = n := by
              have := HX.out
              rw [List.getElem?_eq_getElem hlt] at this
              simp at this
              rw [this, he]
            rw [← h2, List.getElem_cons_drop hlt, List.take_append_drop]
          have e2 : l.idxOf n = k := by
            rw [e1, List.idxOf_append, if_neg HNO.out]
            simp
            omega
          rw [e2])
        have heq : (n == x) = true := by simpa using he
        clear he
        go_wp2
        go_ret
        exact ⟨ret_int HV.out.symm, rfl⟩
      · have hne : (n == x) = false := by simpa using he
        have HN := Lib.hid (show n ∉ l.take (k + 1) from fun h => by
          rw [take_snoc _ k x HX.out] at h
          rcases List.mem_append.1 h with h | h
          · exact HNO.out h
          · exact he (List.mem_singleton.1 h))
        clear he
        go_wp2
        go_round
        case rel => exact ⟨k + 1, by omega, by go_num, HN.out⟩
        case measure => simp [intOf]; omega
    · have hle : (l.length : Int) ≤ k := by omega
      have HV := Lib.hid (show indexM l n = -1 from if_neg (by have := HNO.out; rw [List.take_of_length_le (by omega)] at this; exact this))
      go_wp2
      go_ret
      exact ⟨ret_int HV.out.symm, rfl⟩
theorem add29 (g off j : Nat) : (⟨g, off, none⟩ : Addr).add j = ⟨g, off + j, none⟩ := by unfold Addr.add; split <;> simp_all
/-- a row's beginning, with no room behind it, and the rest behind one place -/
theorem step_cut29 {ops : Array Oper} {o : Oper} {a : Act} {K : Act → World → Prop} {Q : Exit → Act → World → Prop} {E : Prop} (hgd : o.guard = none) (s x : Operand)
    (ho : o.op = .call { callee := .builtin .append, args := #[s, x], argTypes := #[27, 27] }) (w : World) {g k m cc n0 : Nat} {ad : Addr} {c : List Int} (hs : a.eval s = .slice (some ⟨g, 0, none⟩) k k) (hx : a.eval x = .slice (some ad) m cc)
    (hk : k < c.length) (hm : m = c.length - (k + 1)) (hcell : ∀ (j : Nat) x, c[j]? = some x → w.cell? ⟨g, j, none⟩ = some (iV x) ∧ w.frozen? ⟨g, j, none⟩ = false) (hnews : ∀ (j : Nat) u, (c.drop (k + 1))[j]? = some u → w.cell? (ad.add j) = some (iV u))
    (hn6 : c.length ≤ 1000000) (hn0 : n0 ≤ w.heap.size) (hg : n0 ≤ g)
    (h : ∀ b' c' w', RdO w' n0 3 (.slice b' (c.length - 1) c') ((c.eraseIdx k).map iV) → w.grownBy w' none → (b' = some ⟨g, 0, none⟩ ∨ ∃ q, b' = some ⟨q, 0, none⟩ ∧ w.heap.size ≤ q ∧ q < w'.heap.size) → K (a.put o.dst (.slice b' (c.length - 1) c')) w') :
    if Region.wanted o (yielded ops a.tmps) = true then Oper.wp Try.prog o a w K Q else E := by
  have hw : Region.wanted o (yielded ops a.tmps) = true := by simp [Region.wanted, hgd]
  rw [if_pos hw]
  obtain ⟨i, hi, hz, hsize, hby⟩ := info_parts int29_info
  have hel : (c.eraseIdx k).length = c.length - 1 := by rw [List.length_eraseIdx, if_pos hk]
  have hec : c.eraseIdx k = c.take k ++ c.drop (k + 1) := List.eraseIdx_eq_take_drop_succ _ _
  have hsrc : ∀ j u, ((c.drop (k + 1)).map iV)[j]? = some u → w.cell? (ad.add j) = some u := fun j u hu => by
    rw [List.getElem?_map] at hu
    cases hq : (c.drop (k + 1))[j]? with
    | none => rw [hq] at hu; simp at hu
    | some y => rw [hq] at hu; simp at hu; rw [← hu]; exact hnews j y hq
  have hS : Src Try.prog i.size 27 (.slice (some ad) m cc) m ((c.drop (k + 1)).map iV) w := Src.ofSlice w Try.underlying27 ad m cc _ (by rw [hsize]; simp; omega) hsrc (fun u hu => by
    obtain ⟨y, _, rfl⟩ := List.mem_map.1 hu
    simp [Value.oneCell', iV])
  obtain ⟨b', c', w', hrun, h1, h2, h3⟩ : ∃ b' c' w', (Builtin.append_ #[27, 27] o.type #[.slice (some ⟨g, 0, none⟩) k k, .slice (some ad) m cc]).run Try.prog w = .ok (.slice b' (c.length - 1) c') w' ∧
      RdO w' n0 3 (.slice b' (c.length - 1) c') ((c.eraseIdx k).map iV) ∧ w.grownBy w' none ∧ (b' = some ⟨g, 0, none⟩ ∨ ∃ q, b' = some ⟨q, 0, none⟩ ∧ w.heap.size ≤ q ∧ q < w'.heap.size) := by
    rcases Nat.eq_zero_or_pos m with h0 | hpos
    · have hk1 : k = c.length - 1 := by omega
      have hnil : c.drop (k + 1) = [] := List.drop_eq_nil_of_le (by omega)
      rw [h0, hnil] at hS
      refine ⟨some ⟨g, 0, none⟩, k, w, ?_, .inr ⟨g, k, by rw [List.length_map, hel], hg, by rw [List.length_map, hel]; omega, by unfold maxLen; omega, fun j u hu => ?_⟩, World.grownBy.refl _ _, .inl rfl⟩
      · rw [h0, ← hk1]
        exact run_append_nothing (P := Try.prog) w 27 27 o.type 3 i Try.underlying27 hi (some ⟨g, 0, none⟩) k k (Nat.le_refl _) _ hS
      · rw [hec, hnil, List.append_nil, List.getElem?_map, List.getElem?_take] at hu
        by_cases hj : j < k
        · rw [if_pos hj] at hu
          cases hq : c[j]? with
          | none => rw [hq] at hu; simp at hu
          | some y => rw [hq] at hu; simp at hu; rw [← hu]; exact hcell j y hq
        · rw [if_neg hj] at hu; simp at hu
    · have hold : (Builtin.firstCells i.size k (.slice (some ⟨g, 0, none⟩) k k)).run Try.prog w.drew = .ok ((c.take k).map iV).toArray w.drew := by
        rw [hsize]
        refine run_firstCells_some w.drew 1 k ⟨g, 0, none⟩ k k _ (by simp; omega) (fun j u hu => ?_)
        rw [List.getElem?_map, List.getElem?_take] at hu
        by_cases hj : j < k
        · rw [if_pos hj] at hu
          cases hq : c[j]? with
          | none => rw [hq] at hu; simp at hu
          | some y => rw [hq] at hu; simp at hu; rw [← hu, add29, Nat.zero_add]; exact (hcell j y hq).1
        · rw [if_neg hj] at hu; simp at hu
      have hrun := run_append_grow_src (P := Try.prog) w 27 27 o.type 3 i _ Try.underlying27 hi hz (some ⟨g, 0, none⟩) k k ((c.take k).map iV) hold _ m _ hS (by omega) (by omega) (growslice_fits (by omega) (by rw [hby]; omega))
      have hkm : k + m = c.length - 1 := by omega
      rw [hkm] at hrun
      have hcm := grownCap_le_maxLen w (c.length - 1) k 3 (by unfold maxLen; omega)
      have hge := grownCap_ge w (c.length - 1) k 3
      refine ⟨_, _, _, hrun, .inr ⟨w.heap.size, _, by rw [List.length_map, hel], hn0, by rw [List.length_map, hel]; exact hge, hcm, fun j u hu => ⟨?_, World.frozen?_alloc_new w.drew _ _ j⟩⟩, ⟨rfl, rfl, rfl, by simp, fun q hq _ => Below.heap_alloc w.drew _ q hq⟩, .inr ⟨w.heap.size, rfl, Nat.le_refl _, by simp⟩⟩
      have e1 := World.cell?_alloc_new w.drew ((((c.take k).map iV ++ (c.drop (k + 1)).map iV).toArray) ++ Builtin.zeroCells (Value.cells (.int .i64 0)) (grownCap w (c.length - 1) k 3 - (c.length - 1))) 3 j
      refine e1.trans ?_
      have hjl := (List.getElem?_eq_some_iff.1 hu).1
      rw [hec, List.map_append] at hu hjl
      rw [Array.getElem?_append_left (by simpa using hjl), List.getElem?_toArray]
      exact hu
  unfold Oper.wp
  simp [execOp, ho, resolve, invoke, builtin, hs, hx, hrun, Result.andThen]
  exact h b' c' w' h1 h2 h3
def CutP (w : World) (n0 g k : Nat) (c : List Int) (e : Ending) (w' : World) : Prop :=
  ∃ b' c', e = .returned (.slice b' (c.length - 1) c') ∧ RdO w' n0 3 (.slice b' (c.length - 1) c') ((c.eraseIdx k).map iV) ∧ w.grownBy w' none ∧ (b' = some ⟨g, 0, none⟩ ∨ ∃ q, b' = some ⟨q, 0, none⟩ ∧ w.heap.size ≤ q ∧ q < w'.heap.size)
set_option maxHeartbeats 4000000 in
theorem without29_any {w : World} {n0 g cap k : Nat} {c : List Int} (hk : k < c.length) (hle : c.length ≤ cap) (hcm : cap ≤ 9223372036854775807) (hcell : ∀ (j : Nat) x, c[j]? = some x → w.cell? ⟨g, j, none⟩ = some (iV x) ∧ w.frozen? ⟨g, j, none⟩ = false)
    (hn6 : c.length ≤ 1000000) (hn0 : n0 ≤ w.heap.size) (hg : n0 ≤ g) :
    Calls Try.prog 38 #[.slice (some ⟨g, 0, none⟩) c.length cap, .int .i64 (k : Int)] w (CutP w n0 g k c) := by
  have h1 : (k : Int) < (c.length : Int) := by omega
  have h2 : (c.length : Int) ≤ (cap : Int) := by omega
  have h3 : (cap : Int) ≤ 9223372036854775807 := by omega
  have h4 : (c.length : Int) ≤ 1000000 := by omega
  have HC := Lib.hid hcell
  clear hcell
  have hk1 : IntKind.i64.wrap ((k : Int) + 1) = (k : Int) + 1 := IntWalk.i64_in _ ⟨by omega, by omega⟩
  have hkc : k ≤ cap := by omega
  have hk2 : k + 1 ≤ c.length := by omega
  have hk3 : k + 1 ≤ cap := by omega
  have h5 : (k : Int) + 1 ≤ (c.length : Int) := by omega
  have h6 : 0 ≤ (k : Int) + 1 := by omega
  have h7 : (k : Int) ≤ (k : Int) + 1 := by omega
  have HL := Lib.hid (show k + 1 ≤ c.length ∧ c.length ≤ cap ∧ c.length ≤ 1000000 from ⟨hk2, hle, hn6⟩)
  obtain ⟨m, hm⟩ : ∃ m, m = c.length - (k + 1) := ⟨_, rfl⟩
  have HM := Lib.hid hm
  by_cases hcap : cap = k + 1
  · have HCP := Lib.hid hcap
    have HK : ∀ w2 : World, w2 = w.drew → ∀ (j : Nat) u, (c.drop (k + 1))[j]? = some u → w2.cell? ((⟨g, 0, none⟩ : Addr).add j) = some (iV u) := fun w2 _ j u hu => by
      rw [List.drop_eq_nil_of_le (by have := HL.out; have := HCP.out; omega)] at hu
      simp at hu
    have HKH := Lib.hid HK
    clear HK hm
    go_enter Try.func38, Try.ntmps38
    go_upto_region 1 with fail
    go_region_law (refine step_cut29 (n0 := n0) (g := g) (k := k) (m := c.length - (k + 1)) (ad := ⟨g, 0, none⟩) (c := c) rfl (.tmp 8) (.tmp 12) rfl w.drew (by rfl) (by rfl) (by assumption) rfl HC.out (HKH.out _ rfl) (by assumption) hn0 hg ?_; intro b' c' w' hr1 hr2 hr3)
    go_wp2_with fail
    go_ret
    exact ⟨b', c', rfl, hr1, ⟨hr2.os, hr2.tape, hr2.output, hr2.size, hr2.block⟩, hr3⟩
  · have HK : ∀ w2 : World, w2 = w.drew → ∀ (j : Nat) u, (c.drop (k + 1))[j]? = some u → w2.cell? ((⟨g, k + 1, none⟩ : Addr).add j) = some (iV u) := fun w2 h2 j u hu => by
      rw [List.getElem?_drop] at hu
      rw [h2, add29]
      exact (HC.out _ u hu).1
    have HKH := Lib.hid HK
    clear HK hm
    go_enter Try.func38, Try.ntmps38
    go_upto_region 1 with fail
    go_region_law (refine step_cut29 (n0 := n0) (g := g) (k := k) (m := c.length - (k + 1)) (ad := ⟨g, k + 1, none⟩) (c := c) rfl (.tmp 8) (.tmp 12) rfl w.drew (by rfl) (by rfl) (by assumption) rfl HC.out (HKH.out _ rfl) (by assumption) hn0 hg ?_; intro b' c' w' hr1 hr2 hr3)
    go_wp2_with fail
    go_ret
    exact ⟨b', c', rfl, hr1, ⟨hr2.os, hr2.tape, hr2.output, hr2.size, hr2.block⟩, hr3⟩
end Go.Proofs.Ytlcbfahaapodmaa
