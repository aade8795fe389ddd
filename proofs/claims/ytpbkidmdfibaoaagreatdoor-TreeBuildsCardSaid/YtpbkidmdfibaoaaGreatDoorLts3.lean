/-
  Layer 3: what the answer's Light says yes of is small. Own work.
-/
import Derived.Test.YtpbkidmdfibaoaaGreatDoorSameN3
import Derived.Test.YtpbkidmdfibaoaaGreatDoorGr3
import Derived.Test.YtpbkidmdfibaoaaGreatDoorCnt3
namespace Go.Proofs.YtpbkidmdfibaoaaGreatDoor
set_option linter.unusedVariables false
set_option linter.unusedSimpArgs false
open Go.RowKit

mutual
/-- no row, no text is too long -/
def Tr.sm : Tr → Prop
  | .mk n ats ks t => ks.length ≤ 300 ∧ ats.length ≤ 20 ∧ n.length ≤ 1000 ∧ t.length ≤ 1000 ∧ (∀ p ∈ ats, p.1.length ≤ 1000 ∧ p.2.length ≤ 1000) ∧ Tr.sms ks
def Tr.sms : List Tr → Prop
  | [] => True
  | k :: ks => k.sm ∧ Tr.sms ks
end
mutual
/-- how high it is, texts counted -/
def Tr.hgt : Tr → Nat
  | .mk _ _ ks _ => Tr.hgts ks + 1
def Tr.hgts : List Tr → Nat
  | [] => 0
  | k :: ks => max k.hgt (Tr.hgts ks)
end
theorem sms_app : ∀ a b : List Tr, Tr.sms (a ++ b) ↔ Tr.sms a ∧ Tr.sms b
  | [], b => by simp [Tr.sms]
  | x :: a, b => by
    have := sms_app a b
    simp only [List.cons_append, Tr.sms, this, and_assoc]
theorem hgts_app : ∀ a b : List Tr, Tr.hgts (a ++ b) = max (Tr.hgts a) (Tr.hgts b)
  | [], b => by simp [Tr.hgts]
  | x :: a, b => by
    have := hgts_app a b
    simp only [List.cons_append, Tr.hgts, this]; omega
theorem sms_mem : ∀ {l : List Tr} {k : Tr}, Tr.sms l → k ∈ l → k.sm
  | [], k, _, h => by simp at h
  | x :: l, k, hs, h => by
    rcases List.mem_cons.1 h with rfl | h
    · exact hs.1
    · exact sms_mem hs.2 h
mutual
theorem dep_hgt : ∀ x : Tr, x.dep ≤ x.hgt
  | .mk _ _ ks _ => by
    have := deps_hgts ks
    simp only [Tr.dep, Tr.hgt]; omega
theorem deps_hgts : ∀ l : List Tr, Tr.deps l ≤ Tr.hgts l
  | [] => by simp [Tr.deps]
  | k :: ks => by
    have h1 := dep_hgt k
    have h2 := deps_hgts ks
    simp only [Tr.deps, Tr.hgts]
    split <;> omega
end
def LisQ (w0 : World) (P : Nat) (v d : Int) (x : Tr) (e : Ending) (w' : World) : Prop :=
  Below w0.heap.size w0 w' ∧ ∃ (b : Bool) (v' : Int), e = .returned (.bool b) ∧ w'.heap[P]? = some (.cells #[.int .i64 v'] 3 (0, 0)) ∧ (b = true → x.sm ∧ v' = v - (x.size : Int) ∧ 0 ≤ v' ∧ (x.hgt : Int) ≤ d)
theorem LisQ.no {w0 w' : World} {P : Nat} {v d v' : Int} {x : Tr} (hb : Below w0.heap.size w0 w') (hp : w'.heap[P]? = some (.cells #[.int .i64 v'] 3 (0, 0))) : LisQ w0 P v d x (.returned (.bool false)) w' := ⟨hb, false, v', rfl, hp, fun h => by cases h⟩
def LightS (x : Tr) : Prop :=
  ∀ (va vk : Value) (v d : Int) (P : Nat) (w0 w : World), 0 ≤ v → v ≤ 300 → 0 ≤ d → d ≤ 20 → NdV w0 (allF w0) x va vk → Below w0.heap.size w0 w → w0.heap.size ≤ P → w.heap[P]? = some (.cells #[.int .i64 v] 3 (0, 0)) → Calls Tryz.prog 27 #[nodeV x va vk, .int .i64 d, .pointer (some ⟨P, 0, none⟩)] w (LisQ w0 P v d x)
set_option maxRecDepth 100000 in
set_option maxHeartbeats 2000000 in
theorem lights_step (x : Tr) (hS : ∀ k ∈ x.ks, LightS k) : LightS x := by
  intro va vk v d P w0 w hv0 hv3 hd00 hd20 hx hbw hP hp
  obtain ⟨c1, c2, c3, c4, rfl, rfl⟩ := node_cells hx
  obtain ⟨n, ats, ks, t⟩ := x
  unfold nodeV
  simp only [Tr.n, Tr.ats, Tr.ks, Tr.t] at hx hS ⊢
  have hPw := (Array.getElem?_eq_some_iff.1 hp).1
  obtain ⟨w1, hw1⟩ : ∃ w1, w1 = w.alloc (.cells #[.string (str n), .slice c1 ats.length c2, .slice c3 ks.length c4, .string (str t)] 26) := ⟨_, rfl⟩
  have hb1 : Below w.heap.size w w1 := by rw [hw1]; exact (Below.refl _ _).alloc (Nat.le_refl _) _
  have hX : w1.heap[w.heap.size]? = some (.cells #[.string (str n), .slice c1 ats.length c2, .slice c3 ks.length c4, .string (str t)] 26 (0, 0)) := by rw [hw1]; exact heap_alloc_new w _
  have hp1 := (hb1.block P hPw).trans hp
  obtain ⟨v1, hv1e⟩ : ∃ v1 : Int, v1 = v - 1 := ⟨_, rfl⟩
  have hv1 : IntKind.i64.wrap (v - 1) = v1 := by rw [IntWalk.i64_in _ (by omega)]; exact hv1e.symm
  obtain ⟨d1, hd1e⟩ : ∃ d1 : Int, d1 = d - 1 := ⟨_, rfl⟩
  have hd1 : IntKind.i64.wrap (d - 1) = d1 := by rw [IntWalk.i64_in _ (by omega)]; exact hd1e.symm
  have HV1E := Lib.hid hv1e
  have HD1E := Lib.hid hd1e
  have hv1b : -1 ≤ v1 ∧ v1 ≤ 299 := by omega
  clear hv1e hd1e
  have hb01 : Below w0.heap.size w0 w1 := hbw.trans (hb1.mono hbw.size)
  have hset := heap_setCell_same w1 P 0 _ _ (.int .i64 v1) hp1
  have hm := Mvd.of_set w1 P 0 (.int .i64 v1)
  have hXP : w.heap.size ≠ P := by omega
  have hX2 := (hm.block w.heap.size (Array.getElem?_eq_some_iff.1 hX).1 (fun h => hXP (List.mem_singleton.1 h))).trans hX
  have hb02 : Below w0.heap.size w0 (w1.setCell ⟨P, 0, none⟩ (.int .i64 v1)) := hb01.trans (hm.below hb01.size fun k hk => by rw [List.mem_singleton.1 hk]; exact hP)
  have p0 : w1.cell? ⟨P, 0, none⟩ = some (.int .i64 v) := by rw [cell_of_row w1 P 0 _ _ (0, 0) hp1]; rfl
  have fp : w1.frozen? ⟨P, 0, none⟩ = false := frozen_of_row w1 P 0 _ _ hp1
  have HX := Lib.hid hx
  have HS := Lib.hid hS
  have HW1 := Lib.hid hw1
  have HPL := Lib.hid hP
  have hkl := RdSl.len hx.rd
  have hal := RdSl.len hx.ats
  simp only [Tr.ks, Tr.ats] at hkl hal
  have hklI : (ks.length : Int) ≤ 9223372036854775807 := by omega
  have halI : (ats.length : Int) ≤ 9223372036854775807 := by omega
  clear hx hS hw1 hbw hP hp hPw hb1 hX hp1 hb01 hm hXP
  go_enter Tryz.func27, Tryz.ntmps27
  go_upto_region 1 with fail
  rw [← HW1.out]
  generalize w.heap.size = X at hX2 ⊢
  go_upto_region 2 with fail
  generalize w1.setCell ⟨P, 0, none⟩ (.int .i64 v1) = w2 at hset hX2 hb02 ⊢
  have HSET := Lib.hid (show w2.heap[P]? = some (.cells #[.int .i64 v1] 3 (0, 0)) from hset)
  have HB2 := Lib.hid hb02
  have p2 : w2.cell? ⟨P, 0, none⟩ = some (.int .i64 v1) := by rw [cell_of_row w2 P 0 _ _ (0, 0) HSET.out]; rfl
  have x0 : w2.cell? ⟨X, 0, none⟩ = some (.string (str n)) := by rw [cell_of_row w2 X 0 _ _ (0, 0) hX2]; rfl
  have x1 : w2.cell? ⟨X, 1, none⟩ = some (.slice c1 ats.length c2) := by rw [cell_of_row w2 X 1 _ _ (0, 0) hX2]; rfl
  have x2 : w2.cell? ⟨X, 2, none⟩ = some (.slice c3 ks.length c4) := by rw [cell_of_row w2 X 2 _ _ (0, 0) hX2]; rfl
  have x3 : w2.cell? ⟨X, 3, none⟩ = some (.string (str t)) := by rw [cell_of_row w2 X 3 _ _ (0, 0) hX2]; rfl
  have HC := Lib.hid (fun (A : Addr) (v : Value) (h : w2.cell? A = some v) (w3 : World) (hb : Below w2.heap.size w2 w3) => (hb.cell (World.block_lt_of_cell? w2 _ h)).trans h)
  have HX2 := Lib.hid x2
  clear hset hb02 hX2 p0 fp hv1
  by_cases hd0 : d = 0
  case pos =>
    have g0 : (d == 0) = true := by simpa using hd0
    go_wp2_with fail
    go_ret
    exact LisQ.no HB2.out HSET.out
  case neg =>
  have g0 : (d == 0) = false := by simpa using hd0
  by_cases hv0 : v1 < 0
  case pos =>
    skip
    go_wp2_with fail
    go_ret
    exact LisQ.no HB2.out HSET.out
  case neg =>
  skip
  by_cases hk3 : (300 : Int) < (ks.length : Int)
  case pos =>
    skip
    go_wp2_with fail
    go_ret
    exact LisQ.no HB2.out HSET.out
  case neg =>
  skip
  by_cases ha2 : (20 : Int) < (ats.length : Int)
  case pos =>
    skip
    go_wp2_with fail
    go_ret
    exact LisQ.no HB2.out HSET.out
  case neg =>
  skip
  by_cases hn1 : (1000 : Int) < ((str n).size : Int)
  case pos =>
    skip
    go_wp2_with fail
    go_ret
    exact LisQ.no HB2.out HSET.out
  case neg =>
  skip
  by_cases ht1 : (1000 : Int) < ((str t).size : Int)
  case pos =>
    skip
    go_wp2_with fail
    go_ret
    exact LisQ.no HB2.out HSET.out
  case neg =>
  skip
  go_upto_region 5 with fail
  go_loopw [51] (fun i wr => ∃ k : Nat, k ≤ ats.length ∧ i = .int .i64 k ∧ Below w2.heap.size w2 wr ∧ ∀ p ∈ ats.take k, p.1.length ≤ 1000 ∧ p.2.length ≤ 1000) (fun i _ => ats.length - (intOf i).toNat)
  case atStart => exact ⟨0, by omega, rfl, Below.refl _ _, by simp⟩
  case round =>
    obtain ⟨k, hk, rfl, hbw, hsm⟩ := hrel
    have HSM := Lib.hid hsm
    clear hsm
    have HB := Lib.hid hbw
    have HBB := Lib.hid (show Below w0.heap.size w0 wr from HB2.out.trans (hbw.mono HB2.out.size))
    have HPP := Lib.hid ((hbw.block P (Array.getElem?_eq_some_iff.1 HSET.out).1).trans HSET.out)
    clear p2 x0 x1 x2 x3
    by_cases hlt : k < ats.length
    · obtain ⟨y, hy⟩ : ∃ y, ats[k]? = some y := ⟨_, List.getElem?_eq_getElem hlt⟩
      obtain ⟨a1, e1, q0, q1⟩ := RdSl.elem ((HX.out.onto HBB.out (Nat.le_refl _)).ats) hy
      subst e1
      have hkI : (k : Int) < (ats.length : Int) := by omega
      obtain ⟨wb, hwb⟩ : ∃ wb, wb = wr.alloc (.cells #[.string (str y.1), .string (str y.2)] 68) := ⟨_, rfl⟩
      have HBW := Lib.hid (show Below w2.heap.size w2 wb by rw [hwb]; exact hbw.alloc hbw.size _)
      have HBB2 := Lib.hid (show Below w0.heap.size w0 wb by rw [hwb]; exact HBB.out.alloc HBB.out.size _)
      have hrow : wb.heap[wr.heap.size]? = some (.cells #[.string (str y.1), .string (str y.2)] 68 (0, 0)) := by rw [hwb]; exact heap_alloc_new wr _
      have HPP2 := Lib.hid (show wb.heap[P]? = some (.cells #[.int .i64 v1] 3 (0, 0)) by
        rw [hwb, Below.heap_alloc _ _ _ (Array.getElem?_eq_some_iff.1 HPP.out).1]
        exact HPP.out)
      have HWB := Lib.hid hwb
      have r0 : wb.cell? ⟨wr.heap.size, 0, none⟩ = some (.string (str y.1)) := by rw [cell_of_row wb _ 0 _ _ (0, 0) hrow]; rfl
      have r1 : wb.cell? ⟨wr.heap.size, 1, none⟩ = some (.string (str y.2)) := by rw [cell_of_row wb _ 1 _ _ (0, 0) hrow]; rfl
      have HY := Lib.hid hy
      clear hy hbw hwb hrow
      go_upto_region 7 with fail
      rw [← HWB.out]
      generalize wr.heap.size = Y at r0 r1 ⊢
      clear q0 q1
      by_cases hn2 : (1000 : Int) < ((str y.1).size : Int)
      · go_wp2_with fail
        go_ret
        exact LisQ.no HBB2.out HPP2.out
      · by_cases hn3 : (1000 : Int) < ((str y.2).size : Int)
        · go_wp2_with fail
          go_ret
          exact LisQ.no HBB2.out HPP2.out
        · have HSN := Lib.hid (show ∀ p ∈ ats.take (k + 1), p.1.length ≤ 1000 ∧ p.2.length ≤ 1000 by
            rw [take_snoc _ k y HY.out]
            intro p hp
            rcases List.mem_append.1 hp with hp | hp
            · exact HSM.out p hp
            · rw [List.mem_singleton.1 hp]
              rw [size_str] at hn2 hn3
              omega)
          go_wp2_with fail
          go_roundw
          case rel => exact ⟨k + 1, by omega, by go_num, HBW.out, HSN.out⟩
          case measure => simp [intOf]; omega
    · have hle : (ats.length : Int) ≤ k := by omega
      have x2 := HC.out _ _ HX2.out wr hbw
      clear hbw
      go_upto_region 11 with fail
      clear x2
      go_loopw [69] (fun i ws => ∃ k : Nat, k ≤ ks.length ∧ i = .int .i64 k ∧ Below w0.heap.size w0 ws ∧ ws.heap[P]? = some (.cells #[.int .i64 (v1 - ((Tr.sizes (ks.take k) : Nat) : Int))] 3 (0, 0)) ∧ 0 ≤ v1 - ((Tr.sizes (ks.take k) : Nat) : Int) ∧ Tr.sms (ks.take k) ∧ ((Tr.hgts (ks.take k) : Nat) : Int) ≤ d1) (fun i _ => ks.length - (intOf i).toNat)
      case atStart => exact ⟨0, by omega, rfl, HBB.out, by have := HPP.out; simpa [Tr.sizes] using this, by simp [Tr.sizes]; omega, trivial, by have := HD1E.out; show ((0 : Nat) : Int) ≤ d1; omega⟩
      case round =>
        obtain ⟨j, hj, rfl, hbs, hps, hvj, hsj, hhj⟩ := hrel
        have HSJ := Lib.hid hsj
        have HHJ := Lib.hid hhj
        clear hsj hhj
        have HBS := Lib.hid hbs
        have HPS := Lib.hid hps
        by_cases hltj : j < ks.length
        · obtain ⟨y, hy⟩ : ∃ y, ks[j]? = some y := ⟨_, List.getElem?_eq_getElem hltj⟩
          obtain ⟨a1, e1, va, vk, ⟨q0, q1, q2, q3⟩, hny⟩ := RdSl.elem ((HX.out.onto hbs (Nat.le_refl _)).rd) hy
          subst e1
          obtain ⟨b1, e2, va', vk', ⟨u0, u1, u2, u3⟩, hnw⟩ := RdSl.elem HX.out.rd hy
          cases e2
          have e5 := (hbs.cell (World.block_lt_of_cell? w0 _ u1)).trans u1
          have e6 := (hbs.cell (World.block_lt_of_cell? w0 _ u2)).trans u2
          rw [q1] at e5
          rw [q2] at e6
          cases e5
          cases e6
          obtain ⟨s1, s2, s3, s4, rfl, rfl⟩ := node_cells hny
          clear u0 u1 u2 u3
          have hjI : (j : Int) < (ks.length : Int) := by omega
          obtain ⟨wb, hwb⟩ : ∃ wb, wb = wr.alloc (.cells #[.string (str y.n), .slice s1 y.ats.length s2, .slice s3 y.ks.length s4, .string (str y.t)] 26) := ⟨_, rfl⟩
          have hbb : Below w0.heap.size w0 wb := by rw [hwb]; exact hbs.alloc hbs.size _
          have hrow : wb.heap[wr.heap.size]? = some (.cells #[.string (str y.n), .slice s1 y.ats.length s2, .slice s3 y.ks.length s4, .string (str y.t)] 26 (0, 0)) := by rw [hwb]; exact heap_alloc_new wr _
          have hpb := (show wb.heap[P]? = some (.cells #[.int .i64 (v1 - ((Tr.sizes (ks.take j) : Nat) : Int))] 3 (0, 0)) by rw [hwb, Below.heap_alloc _ _ _ (Array.getElem?_eq_some_iff.1 hps).1]; exact hps)
          have HNX := Lib.hid (sizes_snoc ks j y hy)
          have HTK := Lib.hid (take_snoc _ j y hy)
          have HL := Lib.hid (HS.out y (List.mem_of_getElem? hy) _ _ _ d1 P w0 wb hvj (by omega) (by have := HD1E.out; omega) (by have := HD1E.out; omega) hnw hbb HPL.out hpb)
          unfold nodeV at HL
          have HWB := Lib.hid hwb
          have r0 : wb.cell? ⟨wr.heap.size, 0, none⟩ = some (.string (str y.n)) := by rw [cell_of_row wb _ 0 _ _ (0, 0) hrow]; rfl
          have r1 : wb.cell? ⟨wr.heap.size, 1, none⟩ = some (.slice s1 y.ats.length s2) := by rw [cell_of_row wb _ 1 _ _ (0, 0) hrow]; rfl
          have r2 : wb.cell? ⟨wr.heap.size, 2, none⟩ = some (.slice s3 y.ks.length s4) := by rw [cell_of_row wb _ 2 _ _ (0, 0) hrow]; rfl
          have r3 : wb.cell? ⟨wr.heap.size, 3, none⟩ = some (.string (str y.t)) := by rw [cell_of_row wb _ 3 _ _ (0, 0) hrow]; rfl
          clear hy hbs hps hwb hbb hrow hpb hny hnw
          go_upto_region 13 with fail
          rw [← HWB.out]
          generalize wr.heap.size = Y at r0 r1 r2 r3 ⊢
          clear q0 q1 q2 q3
          go_wp2_with fail
          refine HL.out.mono ?_
          rintro e w5 ⟨hb5, b, v5, rfl, hp5, hyes⟩
          have HB5 := Lib.hid hb5
          have HP5 := Lib.hid hp5
          have HYES := Lib.hid hyes
          clear hb5 hp5 hyes r0 r1 r2 r3
          cases b with
          | true =>
            obtain ⟨e1, e2, e3, e4⟩ := HYES.out rfl
            have HREL := Lib.hid (show w5.heap[P]? = some (.cells #[.int .i64 (v1 - ((Tr.sizes (ks.take (j + 1)) : Nat) : Int))] 3 (0, 0)) ∧ 0 ≤ v1 - ((Tr.sizes (ks.take (j + 1)) : Nat) : Int) ∧ Tr.sms (ks.take (j + 1)) ∧ ((Tr.hgts (ks.take (j + 1)) : Nat) : Int) ≤ d1 by
              have hval : v1 - ((Tr.sizes (ks.take (j + 1)) : Nat) : Int) = v5 := by rw [e2, HNX.out]; omega
              refine ⟨by rw [hval]; exact HP5.out, by rw [hval]; exact e3, by rw [HTK.out, sms_app]; exact ⟨HSJ.out, e1, trivial⟩, ?_⟩
              rw [HTK.out, hgts_app]
              have := HHJ.out
              simp only [Tr.hgts]
              omega)
            clear e1 e2 e3 e4
            go_wp2_with fail
            go_roundw
            case rel => exact ⟨j + 1, by omega, by go_num, HB5.out, HREL.out⟩
            case measure => simp [intOf]; omega
          | false =>
            go_wp2_with fail
            go_ret
            exact LisQ.no HB5.out HP5.out
        · have hle : (ks.length : Int) ≤ j := by omega
          have HFIN := Lib.hid (show LisQ w0 P v d (.mk n ats ks t) (.returned (.bool true)) wr by
            have ht : ks.take j = ks := List.take_of_length_le (by omega)
            rw [ht] at hps hvj HSJ HHJ
            have hat : ats.take k = ats := List.take_of_length_le (by omega)
            rw [hat] at HSM
            have h1 := HV1E.out
            have h2 := HD1E.out
            have h3 := HHJ.out
            rw [size_str] at hn1 ht1
            refine ⟨hbs, true, _, rfl, hps, fun _ => ⟨⟨by omega, by omega, by omega, by omega, HSM.out, HSJ.out⟩, ?_, hvj, ?_⟩⟩
            · simp only [Tr.size]; omega
            · simp only [Tr.hgt]; omega)
          clear hbs hps hvj
          go_wp2_with fail
          go_ret
          exact HFIN.out
theorem lights_all : ∀ (m : Nat) (x : Tr), x.size ≤ m → LightS x
  | 0, x, h => absurd x.size_pos (by omega)
  | m + 1, x, h => lights_step x fun k hk => lights_all m k (by
    have h1 := Tr.size_mem hk
    have h2 := x.size_ks
    omega)
set_option maxRecDepth 100000 in
set_option maxHeartbeats 1000000 in
/-- small in all -/
def Small3 (x : Tr) : Prop := x.sm ∧ x.size ≤ 300 ∧ x.hgt ≤ 20
theorem Lights_any (x : Tr) (va vk : Value) (w : World) (hx : NdV w (allF w) x va vk) : Calls Tryz.prog 12 #[nodeV x va vk] w fun e w' => (∃ b, e = .returned (.bool b) ∧ (b = true → Small3 x)) ∧ Below w.heap.size w w' := by
  obtain ⟨c1, c2, c3, c4, rfl, rfl⟩ := node_cells hx
  obtain ⟨w1, hw1⟩ : ∃ w1, w1 = w.alloc (.cells #[.string (str x.n), .slice c1 x.ats.length c2, .slice c3 x.ks.length c4, .string (str x.t)] 26) := ⟨_, rfl⟩
  obtain ⟨w2, hw2⟩ : ∃ w2, w2 = w1.alloc (.cells #[.int .i64 300] 3) := ⟨_, rfl⟩
  have hb1 : Below w.heap.size w w1 := by rw [hw1]; exact (Below.refl _ _).alloc (Nat.le_refl _) _
  have hb12 : Below w1.heap.size w1 w2 := by rw [hw2]; exact (Below.refl _ _).alloc (Nat.le_refl _) _
  have hX : w1.heap[w.heap.size]? = some (.cells #[.string (str x.n), .slice c1 x.ats.length c2, .slice c3 x.ks.length c4, .string (str x.t)] 26 (0, 0)) := by rw [hw1]; exact heap_alloc_new w _
  have hX2 := (hb12.block _ (Array.getElem?_eq_some_iff.1 hX).1).trans hX
  have hP : w2.heap[w1.heap.size]? = some (.cells #[.int .i64 300] 3 (0, 0)) := by rw [hw2]; exact heap_alloc_new w1 _
  have HL := Lib.hid (lights_all x.size x (Nat.le_refl _) _ _ 300 20 w1.heap.size w w2 (by omega) (by omega) (by omega) (by omega) hx (hb1.trans (hb12.mono hb1.size)) hb1.size hP)
  unfold nodeV at HL ⊢
  have HW1 := Lib.hid hw1
  have HW2 := Lib.hid hw2
  have x0 : w2.cell? ⟨w.heap.size, 0, none⟩ = some (.string (str x.n)) := by rw [cell_of_row w2 _ 0 _ _ (0, 0) hX2]; rfl
  have x1 : w2.cell? ⟨w.heap.size, 1, none⟩ = some (.slice c1 x.ats.length c2) := by rw [cell_of_row w2 _ 1 _ _ (0, 0) hX2]; rfl
  have x2 : w2.cell? ⟨w.heap.size, 2, none⟩ = some (.slice c3 x.ks.length c4) := by rw [cell_of_row w2 _ 2 _ _ (0, 0) hX2]; rfl
  have x3 : w2.cell? ⟨w.heap.size, 3, none⟩ = some (.string (str x.t)) := by rw [cell_of_row w2 _ 3 _ _ (0, 0) hX2]; rfl
  clear hw1 hw2 hb1 hb12 hX hX2 hP hx
  go_enter Tryz.func12, Tryz.ntmps12
  go_upto_region 1 with fail
  rw [← HW1.out]
  go_upto_region 2 with fail
  rw [← HW2.out]
  go_wp2_with fail
  refine HL.out.mono ?_
  rintro e w5 ⟨hb5, b, v', rfl, _, hyes⟩
  have HY := Lib.hid (show b = true → Small3 x from fun h => by
    obtain ⟨h1, h2, h3, h4⟩ := hyes h
    exact ⟨h1, by omega, by omega⟩)
  have HB := Lib.hid hb5
  clear hyes hb5
  go_wp2_with fail
  go_ret
  exact ⟨⟨_, rfl, HY.out⟩, HB.out⟩
end Go.Proofs.YtpbkidmdfibaoaaGreatDoor
