/-
  Layer 8: a table that there isn't. Own work.
-/
import Derived.Test.YthfholnnkdoagaaBth8
namespace Go.Proofs.Ythfholnnkdoagaa
set_option linter.unusedVariables false
set_option linter.unusedSimpArgs false
open Go.RowKit

/-- while put of no table is under way -/
structure NilI (O b : Nat) (m : Int) (w0 : World) (out : List UInt8) (w : World) : Prop where
  bld : Bld b b out w
  own : w.cell? ⟨O, 0, none⟩ = some (.string (str []))
  mx : w.cell? ⟨0, 0, none⟩ = some (.int .i64 m)
  bel : Below w0.heap.size w0 w
  ord : w0.heap.size ≤ O ∧ O < b ∧ b < w.heap.size ∧ 0 < w0.heap.size
theorem bld_far {B b : Nat} {l : List UInt8} {w w' : World} (h : Bld B b l w) (hb : Below w.heap.size w w') : Bld B b l w' :=
  h.through (S := ⟨0, 0, 0, 0, undef, 0⟩) (X := fun _ => False) (Kp.of_below hb)
theorem NilI.far {O b : Nat} {m : Int} {w0 w w' : World} {out : List UInt8} (h : NilI O b m w0 out w) (hb : Below w.heap.size w w') : NilI O b m w0 out w' :=
  ⟨bld_far h.bld hb, (hb.cell (World.block_lt_of_cell? w _ h.own)).trans h.own, (hb.cell (World.block_lt_of_cell? w _ h.mx)).trans h.mx, h.bel.trans (hb.mono h.bel.size), h.ord.1, h.ord.2.1, Nat.lt_of_lt_of_le h.ord.2.2.1 hb.size, h.ord.2.2.2⟩
theorem NilI.written {O b : Nat} {m : Int} {w0 w w' : World} {out out' : List UInt8} (h : NilI O b m w0 out w) (hb : Below b w w') (hB : Bld b b out' w') : NilI O b m w0 out' w' :=
  ⟨hB, (hb.cell (by have := h.ord; show O < b; omega)).trans h.own, (hb.cell (by have := h.ord; show 0 < b; omega)).trans h.mx, h.bel.trans (hb.mono (by have := h.ord; omega)), h.ord.1, h.ord.2.1, Nat.lt_of_lt_of_le h.ord.2.2.1 hb.size, h.ord.2.2.2⟩
set_option maxHeartbeats 4000000 in
set_option maxRecDepth 100000 in
theorem put8_nil (w : World) (m : Int) (s : List UInt8) (hs : s.length ≤ 4096) (hm : w.cell? ⟨0, 0, none⟩ = some (.int .i64 m)) :
    Calls Try.prog 36 #[.pointer none, .string (str s), .string (str []), .slice none 0 0] w fun e w' => e = .returned (.string (str s)) ∧ Below w.heap.size w w' := by
  have hbO : Below w.heap.size w (w.alloc (.cells #[.string (str [])] 9)) := (Below.refl _ _).alloc (Nat.le_refl _) _
  have hcO : (w.alloc (.cells #[.string (str [])] 9)).cell? ⟨w.heap.size, 0, none⟩ = some (.string (str [])) := by
    rw [cell_of_row _ _ 0 _ _ (0, 0) (heap_alloc_new w _)]; rfl
  have hsz : (w.alloc (.cells #[.string (str [])] 9)).heap.size = w.heap.size + 1 := by simp
  have hmlt := World.block_lt_of_cell? w _ hm
  have HI := Lib.hid (show NilI w.heap.size (w.heap.size + 1) m w [] ((w.alloc (.cells #[.string (str [])] 9)).alloc (.cells #[.pointer none, .slice none 0 0] 92)) from by
    have hb2 : Below (w.heap.size + 1) (w.alloc (.cells #[.string (str [])] 9)) ((w.alloc (.cells #[.string (str [])] 9)).alloc (.cells #[.pointer none, .slice none 0 0] 92)) := by
      rw [← hsz]; exact (Below.refl _ _).alloc (Nat.le_refl _) _
    have hb3 := hbO.trans (hb2.mono (Nat.le_succ _))
    refine ⟨?_, ?_, (hb3.cell hmlt).trans hm, hb3, Nat.le_refl _, Nat.lt_succ_self _, by simp, hmlt⟩
    · have := Bld.fresh (w.alloc (.cells #[.string (str [])] 9))
      rw [hsz] at this
      exact this
    · exact (hb2.cell (by show w.heap.size < w.heap.size + 1; omega)).trans hcO)
  have hsl : (s.length : Int) ≤ 4096 := by omega
  clear hbO hcO hsz hm hmlt
  go_enter Try.func36, Try.ntmps36
  go_upto_region 2 with fail
  generalize (w.alloc (.cells #[.string (str [])] 9)).alloc (.cells #[.pointer none, .slice none 0 0] 92) = w1 at HI ⊢
  generalize hO : w.heap.size = O at HI ⊢
  generalize hb : O + 1 = b at HI ⊢
  have HO := Lib.hid hO
  have HBb := Lib.hid hb
  clear hO hb
  go_wp2_with fail
  go_loopw [1] (fun t1 wr => ∃ (r out : List UInt8), t1 = .string (str r) ∧ out ++ r = s ∧ NilI O b m w out wr) (fun t1 _ => txtLen t1)
  case atStart => exact ⟨s, [], rfl, rfl, HI.out⟩
  case round =>
    obtain ⟨r, out, rfl, hor, hi⟩ := hrel
    have HOR := Lib.hid hor
    have hlr : out.length + r.length ≤ 4096 := by rw [← hor, List.length_append] at hs; exact hs
    have HI2 := Lib.hid hi
    have HC := Lib.hid (cut8_any r (by omega) m wr hi.mx)
    clear hor hi HI
    go_wp2_with fail
    refine HC.out.mono ?_
    rintro e w2 ⟨⟨nn, rfl⟩, hq⟩
    have HI3 := Lib.hid (HI2.out.far (drewN_below (Below.refl _ _) nn))
    clear HC HI2
    generalize wr.drewN nn = w2 at HI3 ⊢
    cases hrf : refM8 r with
    | none =>
      rw [hrf] at hq
      dsimp only at hq
      subst hq
      clear hrf
      have HA := Lib.hid (add8_any b b O out r [] w2 HI3.out.bld HI3.out.own (by omega) (by omega) (Nat.le_of_lt HI3.out.ord.2.2.1))
      go_wp2_with fail
      refine HA.out.mono ?_
      rintro e w3 hadd
      obtain ⟨rfl, hbl, hb3, ho3⟩ := hadd.yes (by omega)
      have HI4 := Lib.hid (HI3.out.written hb3 hbl)
      have HS := Lib.hid (Try.Builder_String_any_k b b (out ++ r) w3 (Lib.IsBuilderF.of HI4.out.bld) (Nat.le_of_lt HI4.out.ord.2.2.1))
      clear hadd hb3 HA HI3 hbl ho3
      go_wp2_with fail
      refine HS.out.mono ?_
      rintro e w4 ⟨rfl, hbF, hb4, ho4⟩
      have HF := Lib.hid (show Below w.heap.size w w4 from HI4.out.bel.trans (hb4.mono (by have := HI4.out.ord; omega)))
      clear HS hbF hb4 ho4 HI4
      rw [HOR.out]
      go_wp2
      go_ret
      exact ⟨rfl, HF.out⟩
    | some p =>
      obtain ⟨a, nm, rest⟩ := p
      rw [hrf] at hq
      dsimp only at hq
      subst hq
      have hlen := ref_len hrf
      have his := (ref_is hrf).1
      clear hrf
      have HA := Lib.hid (add8_any b b O out a [] w2 HI3.out.bld HI3.out.own (by omega) (by omega) (Nat.le_of_lt HI3.out.ord.2.2.1))
      go_wp2_with fail
      refine HA.out.mono ?_
      rintro e w3 hadd
      obtain ⟨rfl, hbl, hb3, ho3⟩ := hadd.yes (by omega)
      have HI4 := Lib.hid (HI3.out.written hb3 hbl)
      have hal : (asIs nm).length = nm.length + 3 := by simp [asIs]
      have HLK := Lib.hid (lookup8_nil (str nm) w3)
      have HA2 := Lib.hid (add8_any b b O (out ++ a) (asIs nm) [] w3 HI4.out.bld HI4.out.own (by rw [List.length_append]; omega) (by omega) (Nat.le_of_lt HI4.out.ord.2.2.1))
      have hx1 : ¬ 9223372036854775807 < 2 + (str nm).size + 1 := by rw [size_str]; omega
      have hx2 : ¬ 9223372036854775807 < 2 + (str nm).size := by rw [size_str]; omega
      have hcat := asIs_str nm
      have HOR2 := Lib.hid (show (out ++ a) ++ asIs nm ++ rest = s from by rw [← HOR.out, his]; simp [asIs])
      clear hadd hb3 HA HI3 hbl ho3 his
      go_wp2_with fail
      refine HLK.out.mono ?_
      rintro e w4 ⟨rfl, hw4⟩
      obtain rfl : w3 = w4 := hw4.symm
      clear HLK
      go_wp2_with fail
      refine HA2.out.mono ?_
      rintro e w5 hadd
      obtain ⟨rfl, hbl, hb3, ho3⟩ := hadd.yes (by rw [List.length_append]; omega)
      have HI6 := Lib.hid (HI4.out.written hb3 hbl)
      clear hadd hb3 HA2 HI4 hbl ho3
      go_wp2_with fail
      go_roundw
      case rel => exact ⟨rest, (out ++ a) ++ asIs nm, rfl, HOR2.out, HI6.out⟩
      case measure => show (str rest).size < (str r).size; rw [size_str, size_str]; omega
set_option maxRecDepth 100000 in
set_option maxHeartbeats 4000000 in
theorem expand8_nil (w : World) (m : Int) (s : List UInt8) (hs : s.length ≤ 4096) (hm : w.cell? ⟨0, 0, none⟩ = some (.int .i64 m)) :
    Calls Try.prog 23 #[.pointer none, .string (str s)] w fun e w' => e = .returned (.tuple #[.string (str s), .int .i64 0, .string ⟨#[]⟩]) ∧ Below w.heap.size w w' := by
  have hmf : ∀ (fn : Fn) (first cap : Array Value) (w : World), (Instr.makeFunc fn first cap).run Try.prog w = .ok (.func fn first cap) w := fun _ _ _ _ => rfl
  obtain ⟨w1, hw1⟩ : ∃ w1, w1 = ((w.alloc (.cells #[.string ⟨#[]⟩] 9)).alloc (.cells #[.int .i64 0] 42)).alloc (.cells #[.string ⟨#[]⟩] 9) := ⟨_, rfl⟩
  have hz1 : w1.heap.size = w.heap.size + 3 := by rw [hw1]; simp
  have hb1 : Below w.heap.size w w1 := by rw [hw1]; exact (((Below.refl w.heap.size w).alloc (Nat.le_refl _) _).alloc (by simp) _).alloc (by simp; omega) _
  have hres1 : Res8 9 w1 w.heap.size (w.heap.size + 1) (w.heap.size + 1 + 1) (.string ⟨#[]⟩) (.int .i64 0) (.string ⟨#[]⟩) := by
    rw [hw1]
    refine ⟨?_, ?_, ?_⟩
    · rw [Below.heap_alloc _ _ _ (by simp; omega), Below.heap_alloc _ _ _ (by simp)]; exact heap_alloc_new w _
    · rw [Below.heap_alloc _ _ _ (by simp)]; exact heap_alloc2_new w _ _
    · have := heap_alloc2_new (w.alloc (.cells #[.string ⟨#[]⟩] 9)) (.cells #[.int .i64 0] 42) (.cells #[.string ⟨#[]⟩] 9)
      simpa using this
  have HW1 := Lib.hid hw1
  have HP := Lib.hid (put8_nil w1 m s hs ((hb1.cell (World.block_lt_of_cell? w _ hm)).trans hm))
  clear hw1 hm
  go_enter_defers Try.func23, Try.ntmps23
  go_upto_region 2 with fail
  rw [← HW1.out]
  obtain ⟨N, hN⟩ : ∃ N, N = w.heap.size + 1 + 1 := ⟨_, rfl⟩
  obtain ⟨E, hE⟩ : ∃ E, E = w.heap.size + 1 := ⟨_, rfl⟩
  obtain ⟨L, hL⟩ : ∃ L, L = w.heap.size := ⟨_, rfl⟩
  rw [← hN, ← hE, ← hL] at hres1
  rw [← hN, ← hE]
  have hNN : (w.heap.size ≤ L ∧ w.heap.size ≤ E ∧ w.heap.size ≤ N) ∧ (L < w1.heap.size ∧ E < w1.heap.size ∧ N < w1.heap.size) ∧ L ≠ E ∧ L ≠ N ∧ E ≠ N := by omega
  have HN := Lib.hid hNN
  have HRES := Lib.hid hres1
  have HB1 := Lib.hid hb1
  have HL := Lib.hid hL
  simp only [← HL.out]
  clear hres1 hNN hN hE hL hz1 hb1
  go_wp2_with fail
  refine HP.out.mono ?_
  rintro e w2 ⟨rfl, hb2⟩
  have HR2 := Lib.hid (show Res8 9 w2 L E N (.string ⟨#[]⟩) (.int .i64 0) (.string ⟨#[]⟩) from ⟨(hb2.block L HN.out.2.1.1).trans HRES.out.l, (hb2.block E HN.out.2.1.2.1).trans HRES.out.e, (hb2.block N HN.out.2.1.2.2).trans HRES.out.n⟩)
  have HB2 := Lib.hid (HB1.out.trans (hb2.mono HB1.out.size))
  have hres := HR2.out
  have c0 : w2.cell? ⟨L, 0, none⟩ = some (.string ⟨#[]⟩) := by rw [cell_of_row w2 L 0 _ _ (0, 0) hres.l]; rfl
  have c1 : w2.cell? ⟨E, 0, none⟩ = some (.int .i64 0) := by rw [cell_of_row w2 E 0 _ _ (0, 0) hres.e]; rfl
  have c2 : w2.cell? ⟨N, 0, none⟩ = some (.string ⟨#[]⟩) := by rw [cell_of_row w2 N 0 _ _ (0, 0) hres.n]; rfl
  have f0 : w2.frozen? ⟨L, 0, none⟩ = false := frozen_of_row w2 _ 0 _ _ hres.l
  have f1 : w2.frozen? ⟨E, 0, none⟩ = false := frozen_of_row w2 _ 0 _ _ hres.e
  have f2 : w2.frozen? ⟨N, 0, none⟩ = false := frozen_of_row w2 _ 0 _ _ hres.n
  have n1 : ¬ L = E := HN.out.2.2.1
  have n2 : ¬ L = N := HN.out.2.2.2.1
  have n3 : ¬ E = N := HN.out.2.2.2.2
  have n4 : ¬ E = L := fun e => HN.out.2.2.1 e.symm
  have n5 : ¬ N = L := fun e => HN.out.2.2.2.1 e.symm
  have n6 : ¬ N = E := fun e => HN.out.2.2.2.2 e.symm
  clear hres hb2 HP
  go_wp2_with fail
  obtain ⟨w9, hw9⟩ : ∃ w9, w9 = ((w2.setCell ⟨L, 0, none⟩ (.string (str s))).setCell ⟨E, 0, none⟩ (.int .i64 0)).setCell ⟨N, 0, none⟩ (.string ⟨#[]⟩) := ⟨_, rfl⟩
  obtain ⟨u1, u2⟩ := res_put8 HR2.out HN.out.2.2.1 HN.out.2.2.2.1 HN.out.2.2.2.2 _ _ _ w9 hw9
  rw [← hw9]
  refine leaves_cons (f := 34) (args := #[.pointer (some ⟨L, 0, none⟩), .pointer (some ⟨E, 0, none⟩), .pointer (some ⟨N, 0, none⟩)]) (by simp) (by simp [go_sem]) ?_
  refine (idle_exp L E N _).mono ?_
  rintro e u' wz ⟨rfl, rfl, rfl⟩
  have hn := HN.out
  have h4 : w2.heap.size ≤ wz.heap.size := by rw [hw9]; simp
  exact ⟨_, results_exp _ _ L E N _ _ _ rfl rfl rfl u1, rfl, HB2.out.trans ⟨by rw [hw9]; rfl, by rw [hw9]; rfl, by rw [hw9]; rfl, h4, fun k hk => u2 k (by omega) (by omega) (by omega)⟩⟩
theorem known8_nil (w : World) : Calls Try.prog 25 #[.pointer none] w fun e w' => e = .returned (.int .i64 0) ∧ w' = w := by
  go_enter Try.func25, Try.ntmps25
  go_wp2
  go_ret
  exact ⟨rfl, rfl⟩
end Go.Proofs.Ythfholnnkdoagaa
