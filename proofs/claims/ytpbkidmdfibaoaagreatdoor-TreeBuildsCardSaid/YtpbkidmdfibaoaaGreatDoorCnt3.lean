/-
  Layer 3: the contracts of the answer's Count and Depth. Own work.
-/
import Derived.Test.YtpbkidmdfibaoaaGreatDoorSameT3
namespace Go.Proofs.YtpbkidmdfibaoaaGreatDoor
set_option linter.unusedVariables false
set_option linter.unusedSimpArgs false
open Go.RowKit

mutual
/-- how many elements stand within one another -/
def Tr.dep : Tr → Nat
  | .mk _ _ ks _ => Tr.deps ks + 1
def Tr.deps : List Tr → Nat
  | [] => 0
  | k :: ks => if k.n = [] then Tr.deps ks else max k.dep (Tr.deps ks)
end
theorem Tr.dep_ks (x : Tr) : x.dep = Tr.deps x.ks + 1 := by cases x; rfl
theorem sizes_snoc (l : List Tr) (k : Nat) (x : Tr) (h : l[k]? = some x) : Tr.sizes (l.take (k + 1)) = Tr.sizes (l.take k) + x.size := by
  rw [take_snoc _ k x h, Tr.sizes_app]
  simp [Tr.sizes]
theorem deps_app : ∀ a b : List Tr, Tr.deps (a ++ b) = max (Tr.deps a) (Tr.deps b)
  | [], b => by simp [Tr.deps]
  | x :: a, b => by
    have := deps_app a b
    simp only [List.cons_append, Tr.deps, this]
    split
    · rfl
    · omega
theorem deps_snoc (l : List Tr) (k : Nat) (x : Tr) (h : l[k]? = some x) : Tr.deps (l.take (k + 1)) = if x.n = [] then Tr.deps (l.take k) else max (Tr.deps (l.take k)) x.dep := by
  rw [take_snoc _ k x h, deps_app]
  simp only [Tr.deps]
  split <;> omega
theorem sizes_take (l : List Tr) (k : Nat) : Tr.sizes (l.take k) ≤ Tr.sizes l := by
  have := Tr.sizes_app (l.take k) (l.drop k)
  rw [List.take_append_drop] at this
  omega
mutual
theorem dep_size : ∀ x : Tr, x.dep ≤ x.size
  | .mk _ _ ks _ => by
    have := deps_sizes ks
    simp only [Tr.dep, Tr.size]; omega
theorem deps_sizes : ∀ l : List Tr, Tr.deps l ≤ Tr.sizes l
  | [] => by simp [Tr.deps]
  | k :: ks => by
    have h1 := dep_size k
    have h2 := deps_sizes ks
    simp only [Tr.deps, Tr.sizes]
    split <;> omega
end
def CntAt (x : Tr) : Prop := ∀ (va vk : Value) (w : World), NdV w (allF w) x va vk → Calls Tryz.prog 18 #[nodeV x va vk] w fun e w' => e = .returned (.int .i64 (x.size : Int)) ∧ Below w.heap.size w w'
def DepAt (x : Tr) : Prop := ∀ (va vk : Value) (w : World), NdV w (allF w) x va vk → Calls Tryz.prog 36 #[nodeV x va vk] w fun e w' => e = .returned (.int .i64 (x.dep : Int)) ∧ Below w.heap.size w w'
set_option maxRecDepth 100000 in
set_option maxHeartbeats 2000000 in
theorem cnt_step (x : Tr) (hz : x.size ≤ 1000000) (hS : ∀ k ∈ x.ks, CntAt k) : CntAt x := by
  intro va vk w hx
  obtain ⟨c1, c2, c3, c4, rfl, rfl⟩ := node_cells hx
  obtain ⟨n, ats, ks, t⟩ := x
  unfold nodeV
  simp only [Tr.n, Tr.ats, Tr.ks, Tr.t] at hx hS ⊢
  obtain ⟨w1, hw1⟩ : ∃ w1, w1 = w.alloc (.cells #[.string (str n), .slice c1 ats.length c2, .slice c3 ks.length c4, .string (str t)] 26) := ⟨_, rfl⟩
  have hb1 : Below w.heap.size w w1 := by rw [hw1]; exact (Below.refl _ _).alloc (Nat.le_refl _) _
  have hX : w1.heap[w.heap.size]? = some (.cells #[.string (str n), .slice c1 ats.length c2, .slice c3 ks.length c4, .string (str t)] 26 (0, 0)) := by rw [hw1]; exact heap_alloc_new w _
  have HKX := Lib.hid (show ∀ w2, Below w.heap.size w w2 → RdSl 4 (NdAt w2 (allF w2)) (.slice c3 ks.length c4) ks from fun w2 hb => (hx.onto hb (Nat.le_refl _)).rd)
  have hkl := RdSl.len hx.rd
  simp only [Tr.ks] at hkl
  have hklI : (ks.length : Int) ≤ 9223372036854775807 := by omega
  have hsz : 1 + Tr.sizes ks ≤ 1000000 := hz
  have HS := Lib.hid hS
  have HW1 := Lib.hid hw1
  have HB1 := Lib.hid hb1
  have x2 : w1.cell? ⟨w.heap.size, 2, none⟩ = some (.slice c3 ks.length c4) := by rw [cell_of_row w1 _ 2 _ _ (0, 0) hX]; rfl
  clear hx hS hw1 hb1 hX hz
  go_enter Tryz.func18, Tryz.ntmps18
  go_upto_region 1 with fail
  rw [← HW1.out]
  go_upto_region 3 with fail
  clear x2
  go_loopw [3, 9] (fun s i wr => ∃ (k : Nat), k ≤ ks.length ∧ i = .int .i64 k ∧ s = .int .i64 ((1 + Tr.sizes (ks.take k) : Nat) : Int) ∧ Below w.heap.size w wr) (fun _ i _ => ks.length - (intOf i).toNat)
  case atStart => exact ⟨0, by omega, rfl, rfl, HB1.out⟩
  case round =>
    obtain ⟨k, hk, rfl, rfl, hbw⟩ := hrel
    have HB := Lib.hid hbw
    have hst := sizes_take ks k
    have hdt := deps_sizes (ks.take k)
    by_cases hlt : k < ks.length
    · obtain ⟨y, hy⟩ : ∃ y, ks[k]? = some y := ⟨_, List.getElem?_eq_getElem hlt⟩
      obtain ⟨a1, e1, va, vk, ⟨q0, q1, q2, q3⟩, hny⟩ := RdSl.elem (HKX.out wr hbw) hy
      subst e1
      obtain ⟨s1, s2, s3, s4, rfl, rfl⟩ := node_cells hny
      have hkI : (k : Int) < (ks.length : Int) := by omega
      obtain ⟨wb, hwb⟩ : ∃ wb, wb = wr.alloc (.cells #[.string (str y.n), .slice s1 y.ats.length s2, .slice s3 y.ks.length s4, .string (str y.t)] 26) := ⟨_, rfl⟩
      have hbb : Below wr.heap.size wr wb := by rw [hwb]; exact (Below.refl _ _).alloc (Nat.le_refl _) _
      have hrow : wb.heap[wr.heap.size]? = some (.cells #[.string (str y.n), .slice s1 y.ats.length s2, .slice s3 y.ks.length s4, .string (str y.t)] 26 (0, 0)) := by rw [hwb]; exact heap_alloc_new wr _
      have HC := Lib.hid (HS.out y (List.mem_of_getElem? hy) _ _ wb (hny.onto hbb (Nat.le_refl _)))
      unfold nodeV at HC
      have HBW := Lib.hid (hbw.trans (hbb.mono hbw.size))
      have HWB := Lib.hid hwb
      have HSN := Lib.hid (sizes_snoc ks k y hy)
      have HDN := Lib.hid (deps_snoc ks k y hy)
      have hs2 := sizes_take ks (k + 1)
      have hds := dep_size y
      rw [HSN.out] at hs2
      have r0 : wb.cell? ⟨wr.heap.size, 0, none⟩ = some (.string (str y.n)) := by rw [cell_of_row wb _ 0 _ _ (0, 0) hrow]; rfl
      have r1 : wb.cell? ⟨wr.heap.size, 1, none⟩ = some (.slice s1 y.ats.length s2) := by rw [cell_of_row wb _ 1 _ _ (0, 0) hrow]; rfl
      have r2 : wb.cell? ⟨wr.heap.size, 2, none⟩ = some (.slice s3 y.ks.length s4) := by rw [cell_of_row wb _ 2 _ _ (0, 0) hrow]; rfl
      have r3 : wb.cell? ⟨wr.heap.size, 3, none⟩ = some (.string (str y.t)) := by rw [cell_of_row wb _ 3 _ _ (0, 0) hrow]; rfl
      clear hy hbw hwb hbb hrow hny
      go_upto_region 5 with fail
      rw [← HWB.out]
      generalize wr.heap.size = Y at r0 r1 r2 r3 ⊢
      clear q0 q1 q2 q3
      go_wp2_with fail
      refine HC.out.mono ?_
      rintro e w5 ⟨rfl, hb5⟩
      have HB5 := Lib.hid (HBW.out.trans (hb5.mono HBW.out.size))
      obtain ⟨D, hD⟩ : ∃ D, D = 1 + Tr.sizes (ks.take k) := ⟨_, rfl⟩
      have HN := Lib.hid (show 1 + Tr.sizes (ks.take (k + 1)) = D + y.size by rw [HSN.out, hD]; omega)
      have hDI : (D : Int) + (y.size : Int) ≤ 1000000 := by omega
      rw [← hD]
      clear hb5 r0 r1 r2 r3 hD hs2 hds hst hdt
      generalize y.size = d at HN hDI ⊢
      go_wp2_with fail
      go_roundw
      case rel => exact ⟨k + 1, by omega, by go_num, by rw [HN.out]; go_num, HB5.out⟩
      case measure => simp [intOf]; omega
    · have hle : (ks.length : Int) ≤ k := by omega
      have HT := Lib.hid (show ks.take k = ks from List.take_of_length_le (by omega))
      rw [HT.out] at hst hdt ⊢
      have hfin : ((1 + Tr.sizes ks : Nat) : Int) ≤ 1000000 := by omega
      obtain ⟨D, hD⟩ : ∃ D, D = 1 + Tr.sizes ks := ⟨_, rfl⟩
      rw [← hD] at hfin ⊢
      have HD := Lib.hid hD
      clear hD hst hdt hbw
      go_wp2_with fail
      go_ret
      exact ⟨ret_int (by simp only [Tr.size, HD.out]), HB.out⟩
set_option maxRecDepth 100000 in
set_option maxHeartbeats 2000000 in
theorem dep_step (x : Tr) (hz : x.size ≤ 1000000) (hS : ∀ k ∈ x.ks, DepAt k) : DepAt x := by
  intro va vk w hx
  obtain ⟨c1, c2, c3, c4, rfl, rfl⟩ := node_cells hx
  obtain ⟨n, ats, ks, t⟩ := x
  unfold nodeV
  simp only [Tr.n, Tr.ats, Tr.ks, Tr.t] at hx hS ⊢
  obtain ⟨w1, hw1⟩ : ∃ w1, w1 = w.alloc (.cells #[.string (str n), .slice c1 ats.length c2, .slice c3 ks.length c4, .string (str t)] 26) := ⟨_, rfl⟩
  have hb1 : Below w.heap.size w w1 := by rw [hw1]; exact (Below.refl _ _).alloc (Nat.le_refl _) _
  have hX : w1.heap[w.heap.size]? = some (.cells #[.string (str n), .slice c1 ats.length c2, .slice c3 ks.length c4, .string (str t)] 26 (0, 0)) := by rw [hw1]; exact heap_alloc_new w _
  have HKX := Lib.hid (show ∀ w2, Below w.heap.size w w2 → RdSl 4 (NdAt w2 (allF w2)) (.slice c3 ks.length c4) ks from fun w2 hb => (hx.onto hb (Nat.le_refl _)).rd)
  have hkl := RdSl.len hx.rd
  simp only [Tr.ks] at hkl
  have hklI : (ks.length : Int) ≤ 9223372036854775807 := by omega
  have hsz : 1 + Tr.sizes ks ≤ 1000000 := hz
  have HS := Lib.hid hS
  have HW1 := Lib.hid hw1
  have HB1 := Lib.hid hb1
  have x2 : w1.cell? ⟨w.heap.size, 2, none⟩ = some (.slice c3 ks.length c4) := by rw [cell_of_row w1 _ 2 _ _ (0, 0) hX]; rfl
  clear hx hS hw1 hb1 hX hz
  go_enter Tryz.func36, Tryz.ntmps36
  go_upto_region 1 with fail
  rw [← HW1.out]
  go_upto_region 3 with fail
  clear x2
  go_loopw [3, 9] (fun s i wr => ∃ (k : Nat), k ≤ ks.length ∧ i = .int .i64 k ∧ s = .int .i64 ((Tr.deps (ks.take k) : Nat) : Int) ∧ Below w.heap.size w wr) (fun _ i _ => ks.length - (intOf i).toNat)
  case atStart => exact ⟨0, by omega, rfl, rfl, HB1.out⟩
  case round =>
    obtain ⟨k, hk, rfl, rfl, hbw⟩ := hrel
    have HB := Lib.hid hbw
    have hst := sizes_take ks k
    have hdt := deps_sizes (ks.take k)
    by_cases hlt : k < ks.length
    · obtain ⟨y, hy⟩ : ∃ y, ks[k]? = some y := ⟨_, List.getElem?_eq_getElem hlt⟩
      obtain ⟨a1, e1, va, vk, ⟨q0, q1, q2, q3⟩, hny⟩ := RdSl.elem (HKX.out wr hbw) hy
      subst e1
      obtain ⟨s1, s2, s3, s4, rfl, rfl⟩ := node_cells hny
      have hkI : (k : Int) < (ks.length : Int) := by omega
      obtain ⟨wb, hwb⟩ : ∃ wb, wb = wr.alloc (.cells #[.string (str y.n), .slice s1 y.ats.length s2, .slice s3 y.ks.length s4, .string (str y.t)] 26) := ⟨_, rfl⟩
      have hbb : Below wr.heap.size wr wb := by rw [hwb]; exact (Below.refl _ _).alloc (Nat.le_refl _) _
      have hrow : wb.heap[wr.heap.size]? = some (.cells #[.string (str y.n), .slice s1 y.ats.length s2, .slice s3 y.ks.length s4, .string (str y.t)] 26 (0, 0)) := by rw [hwb]; exact heap_alloc_new wr _
      have HC := Lib.hid (HS.out y (List.mem_of_getElem? hy) _ _ wb (hny.onto hbb (Nat.le_refl _)))
      unfold nodeV at HC
      have HBW := Lib.hid (hbw.trans (hbb.mono hbw.size))
      have HWB := Lib.hid hwb
      have HSN := Lib.hid (sizes_snoc ks k y hy)
      have HDN := Lib.hid (deps_snoc ks k y hy)
      have hs2 := sizes_take ks (k + 1)
      have hds := dep_size y
      rw [HSN.out] at hs2
      have r0 : wb.cell? ⟨wr.heap.size, 0, none⟩ = some (.string (str y.n)) := by rw [cell_of_row wb _ 0 _ _ (0, 0) hrow]; rfl
      have r1 : wb.cell? ⟨wr.heap.size, 1, none⟩ = some (.slice s1 y.ats.length s2) := by rw [cell_of_row wb _ 1 _ _ (0, 0) hrow]; rfl
      have r2 : wb.cell? ⟨wr.heap.size, 2, none⟩ = some (.slice s3 y.ks.length s4) := by rw [cell_of_row wb _ 2 _ _ (0, 0) hrow]; rfl
      have r3 : wb.cell? ⟨wr.heap.size, 3, none⟩ = some (.string (str y.t)) := by rw [cell_of_row wb _ 3 _ _ (0, 0) hrow]; rfl
      clear hy hbw hwb hbb hrow hny
      go_upto_region 5 with fail
      rw [← HWB.out]
      generalize wr.heap.size = Y at r0 r1 r2 r3 ⊢
      clear q0 q1 q2 q3
      obtain ⟨D, hD⟩ : ∃ D, D = Tr.deps (ks.take k) := ⟨_, rfl⟩
      rw [← hD] at hdt HDN ⊢
      have HD := Lib.hid hD
      clear hD
      have hDI : (D : Int) ≤ 1000000 := by omega
      have hyI : (y.dep : Int) ≤ 1000000 := by omega
      by_cases hyn : y.n = []
      · have hE : (str y.n).toList.isEmpty = true := by rw [hyn]; kernel_rfl
        have hE2 : ((str y.n).toList == []) = true := by rw [hyn]; kernel_rfl
        have HN := Lib.hid (HDN.out.trans (if_pos hyn))
        clear hyn hs2 hds hst hdt
        go_wp2_with fail
        go_roundw
        case rel => exact ⟨k + 1, by omega, by go_num, by rw [HN.out], HBW.out⟩
        case measure => simp [intOf]; omega
      · have hE : (str y.n).toList.isEmpty = false := by
          rw [ByteArray.toList_eq, toList_str]
          cases hq : y.n with
          | nil => exact absurd hq hyn
          | cons c t => rfl
        have HN := Lib.hid (HDN.out.trans (if_neg hyn))
        clear hyn hs2 hds hst hdt
        go_wp2_with fail
        refine HC.out.mono ?_
        rintro e w5 ⟨rfl, hb5⟩
        have HB5 := Lib.hid (HBW.out.trans (hb5.mono HBW.out.size))
        clear hb5 r0 r1 r2 r3
        generalize hdy : y.dep = d at HN hyI ⊢
        clear hdy
        by_cases hle : (D : Int) ≤ (d : Int)
        all_goals
          go_wp2_with fail
          go_roundw
          case rel => exact ⟨k + 1, by omega, by go_num, by rw [HN.out]; go_num; try omega, HB5.out⟩
          case measure => simp [intOf]; omega
    · have hle : (ks.length : Int) ≤ k := by omega
      have HT := Lib.hid (show ks.take k = ks from List.take_of_length_le (by omega))
      rw [HT.out] at hst hdt ⊢
      have hfin : ((Tr.deps ks : Nat) : Int) ≤ 1000000 := by omega
      obtain ⟨D, hD⟩ : ∃ D, D = Tr.deps ks := ⟨_, rfl⟩
      rw [← hD] at hfin ⊢
      have HD := Lib.hid hD
      clear hD hst hdt hbw
      go_wp2_with fail
      go_ret
      exact ⟨ret_int (by simp only [Tr.dep, HD.out]; go_num), HB.out⟩
theorem cnt_step_all : ∀ (m : Nat) (x : Tr), x.size ≤ m → x.size ≤ 1000000 → CntAt x
  | 0, x, h, _ => absurd x.size_pos (by omega)
  | m + 1, x, h, hz => cnt_step x hz fun k hk => cnt_step_all m k (by
    have h1 := Tr.size_mem hk
    have h2 := x.size_ks
    omega) (by
    have h1 := Tr.size_mem hk
    have h2 := x.size_ks
    omega)
theorem Count_any (x : Tr) (hz : x.size ≤ 1000000) : CntAt x := cnt_step_all x.size x (Nat.le_refl _) hz
theorem dep_step_all : ∀ (m : Nat) (x : Tr), x.size ≤ m → x.size ≤ 1000000 → DepAt x
  | 0, x, h, _ => absurd x.size_pos (by omega)
  | m + 1, x, h, hz => dep_step x hz fun k hk => dep_step_all m k (by
    have h1 := Tr.size_mem hk
    have h2 := x.size_ks
    omega) (by
    have h1 := Tr.size_mem hk
    have h2 := x.size_ks
    omega)
theorem Depth_any (x : Tr) (hz : x.size ≤ 1000000) : DepAt x := dep_step_all x.size x (Nat.le_refl _) hz
end Go.Proofs.YtpbkidmdfibaoaaGreatDoor
