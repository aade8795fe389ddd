/-
  Layer 25: the contract of the answer's find. Own work.
-/
import Derived.Test.YtoibanffaebllaaApply25
import Derived.Test.YtoibanffaebllaaRefMayE25
namespace Go.Proofs.Ytoibanffaebllaa
set_option linter.unusedVariables false
set_option linter.unusedSimpArgs false
open Go.RowKit

def findP (k : K4) (l : List Pn) : Option Pn := l.find? fun p => sameK p.key k
theorem findP_at {k : K4} {l : List Pn} {i : Nat} {p : Pn} (hp : l[i]? = some p) (hs : sameK p.key k = true) (h : ∀ j q, j < i → l[j]? = some q → sameK q.key k = false) : findP k l = some p := by
  unfold findP
  obtain ⟨hi, hpi⟩ := List.getElem?_eq_some_iff.1 hp
  rw [List.find?_eq_some_iff_getElem]
  refine ⟨hs, i, hi, hpi, fun j hj => ?_⟩
  rw [h j l[j] hj (List.getElem?_eq_getElem (by omega))]; rfl
theorem findP_none {k : K4} {l : List Pn} (h : ∀ j q, j < l.length → l[j]? = some q → sameK q.key k = false) : findP k l = none := by
  unfold findP
  rw [List.find?_eq_none]
  intro p hp
  obtain ⟨i, hi⟩ := List.getElem?_of_mem hp
  rw [h i p (List.getElem?_eq_some_iff.1 hi).1 hi]; simp
theorem find_results (tmps : Array Value) (w : World) (R : Nat) (cs : Array Value) (hs : cs.size = 6) (e : Value) (h2 : tmps.getD 4 undef = .pointer (some ⟨R, 0, none⟩)) (h3 : tmps.getD 5 undef = e)
    (hR : w.heap[R]? = some (.cells cs 48 (0, 0))) :
    (results Try.f30 tmps).run Try.prog w = .ok (.tuple #[.agg cs, e]) w := by
  have h2' : tmps[4]?.getD undef = .pointer (some ⟨R, 0, none⟩) := by simpa using h2
  have h3' : tmps[5]?.getD undef = e := by simpa using h3
  have l1 := run_loadVar_row w R 48 48 cs (0, 0) _ hR Try.underlying48 rfl (by rw [hs]; kernel_rfl)
  simp [results, Try.results30, h2', h3', asAddr, l1]
def FindP (o : Option Pn) (w : World) (e : Ending) (w' : World) : Prop := e = .returned (.tuple #[pnV (o.getD zP), .bool o.isSome]) ∧ Below w.heap.size w w'
set_option maxRecDepth 100000 in
set_option maxHeartbeats 4000000 in
theorem find_any (pv : Value) (l : List Pn) (q : K4) (hl : l.length ≤ 1000000) (w : World) (hr : RdN w pv l) :
    Calls Try.prog 30 #[pv, q.val] w (FindP (findP q l) w) := by
  obtain ⟨pa, pc, rfl⟩ := hr.shape
  have hlI : (l.length : Int) ≤ 1000000 := by omega
  have hb0 : Below w.heap.size w ((w.alloc (.cells #[.string q.g, .string q.a, .string q.t, .string q.c] 46)).alloc (.cells #[.string ⟨#[]⟩, .string ⟨#[]⟩, .string ⟨#[]⟩, .string ⟨#[]⟩, .string ⟨#[]⟩, .int .i64 0] 48)) := ((Below.refl w.heap.size w).alloc (Nat.le_refl _) _).alloc (by simp) _
  have hrow : ((w.alloc (.cells #[.string q.g, .string q.a, .string q.t, .string q.c] 46)).alloc (.cells #[.string ⟨#[]⟩, .string ⟨#[]⟩, .string ⟨#[]⟩, .string ⟨#[]⟩, .string ⟨#[]⟩, .int .i64 0] 48)).heap[w.heap.size + 1]? = some (.cells #[.string ⟨#[]⟩, .string ⟨#[]⟩, .string ⟨#[]⟩, .string ⟨#[]⟩, .string ⟨#[]⟩, .int .i64 0] 48 (0, 0)) := by
    have := heap_alloc_new (w.alloc (.cells #[.string q.g, .string q.a, .string q.t, .string q.c] 46)) (.cells #[.string ⟨#[]⟩, .string ⟨#[]⟩, .string ⟨#[]⟩, .string ⟨#[]⟩, .string ⟨#[]⟩, .int .i64 0] 48)
    simpa using this
  have hkey : ((w.alloc (.cells #[.string q.g, .string q.a, .string q.t, .string q.c] 46)).alloc (.cells #[.string ⟨#[]⟩, .string ⟨#[]⟩, .string ⟨#[]⟩, .string ⟨#[]⟩, .string ⟨#[]⟩, .int .i64 0] 48)).heap[w.heap.size]? = some (.cells #[.string q.g, .string q.a, .string q.t, .string q.c] 46 (0, 0)) :=
    (Below.heap_alloc _ _ _ (by simp)).trans (heap_alloc_new w _)
  have HR := Lib.hid (hr.below hb0 (Nat.le_refl _))
  have HB0 := Lib.hid hb0
  clear hr hb0
  unfold K4.val keyV
  go_enter Try.func30, Try.ntmps30
  go_upto_region 1 with fail
  generalize ((w.alloc (.cells #[.string q.g, .string q.a, .string q.t, .string q.c] 46)).alloc (.cells #[.string ⟨#[]⟩, .string ⟨#[]⟩, .string ⟨#[]⟩, .string ⟨#[]⟩, .string ⟨#[]⟩, .int .i64 0] 48)) = w1 at hrow hkey HR HB0 ⊢
  obtain ⟨R, hR⟩ : ∃ R, R = w.heap.size + 1 := ⟨_, rfl⟩
  rw [← hR] at hrow
  simp only [← hR]
  have HRG := Lib.hid (show w.heap.size ≤ R from by omega)
  clear hR
  have HROW := Lib.hid hrow
  have HKEY := Lib.hid hkey
  clear hrow hkey
  go_wp2_with fail
  go_loopw [10] (fun i wr => ∃ k : Nat, k ≤ l.length ∧ i = .int .i64 k ∧ (∀ j p, j < k → l[j]? = some p → sameK p.key q = false) ∧ Below w1.heap.size w1 wr) (fun i _ => l.length - (intOf i).toNat)
  case atStart => exact ⟨0, by omega, rfl, fun j p hj => by omega, Below.refl _ _⟩
  case round =>
    obtain ⟨k, hk, rfl, hall, hb⟩ := hrel
    have HALL := Lib.hid hall
    have HB := Lib.hid hb
    clear hall
    generalize hI : (k : Int) = I
    have HI := Lib.hid hI
    have hI0 : (0 : Int) ≤ I := by omega
    have hIt : I.toNat = k := by omega
    by_cases hlt : k < l.length
    · obtain ⟨p, hp⟩ : ∃ p, l[k]? = some p := ⟨_, List.getElem?_eq_getElem hlt⟩
      obtain ⟨b, rfl, _, _, _, hc⟩ := HR.out.elem hp
      have hltI : I < l.length := by omega
      have hat := RdN.at hc hp hb (Nat.le_refl _)
      rw [← hIt] at hat
      obtain ⟨k0, k1, k2, k3, k4, k5⟩ := hat
      have HPIN := Lib.hid (PinIn.new wr p)
      have HBA := Lib.hid (show Below wr.heap.size wr (wr.alloc (.cells #[.string p.g, .string p.a, .string p.t, .string p.c, .string p.v, .int .i64 p.sc] 48)) from (Below.refl _ _).alloc (Nat.le_refl _) _)
      have HP := Lib.hid hp
      clear hb hc hp hI hIt
      go_upto_region 4 with fail
      generalize wr.alloc (.cells #[.string p.g, .string p.a, .string p.t, .string p.c, .string p.v, .int .i64 p.sc] 48) = wa at HPIN HBA ⊢
      generalize wr.heap.size = b5 at HPIN ⊢
      obtain ⟨y0, y1, y2, y3, y4, y5⟩ := HPIN.out
      have HBW := Lib.hid (HB.out.trans (HBA.out.mono HB.out.size))
      have hkr := (HBW.out.block w.heap.size (Array.getElem?_eq_some_iff.1 HKEY.out).1).trans HKEY.out
      have q0 : wa.cell? ⟨w.heap.size, 0, none⟩ = some (.string q.g) := by rw [cell_of_row wa _ 0 _ _ (0, 0) hkr]; rfl
      have q1 : wa.cell? ⟨w.heap.size, 1, none⟩ = some (.string q.a) := by rw [cell_of_row wa _ 1 _ _ (0, 0) hkr]; rfl
      have q2 : wa.cell? ⟨w.heap.size, 2, none⟩ = some (.string q.t) := by rw [cell_of_row wa _ 2 _ _ (0, 0) hkr]; rfl
      have q3 : wa.cell? ⟨w.heap.size, 3, none⟩ = some (.string q.c) := by rw [cell_of_row wa _ 3 _ _ (0, 0) hkr]; rfl
      have heq := fun w => eq_key p.key q w
      unfold Pn.key at heq
      simp only at heq
      have hs : sameK p.key q = sameK ⟨p.g, p.a, p.t, p.c⟩ q := rfl
      generalize sameK ⟨p.g, p.a, p.t, p.c⟩ q = s at heq hs
      have HS := Lib.hid hs
      have HRR := Lib.hid ((HBW.out.block R (Array.getElem?_eq_some_iff.1 HROW.out).1).trans HROW.out)
      clear k0 k1 k2 k3 k4 k5 hkr hs
      cases s
      · go_wp2
        go_roundw
        case rel =>
          refine ⟨k + 1, by omega, by rw [← HI.out]; go_num, fun j p' hj hp' => ?_, HBW.out⟩
          by_cases hjk : j = k
          · subst hjk
            have := HP.out.symm.trans hp'
            cases this
            exact HS.out
          · exact HALL.out j p' (by omega) hp'
        case measure => rw [← HI.out]; simp [intOf]; omega
      · go_wp2_with (refine wpList_store_row rfl 48 _ _ rfl R #[.string p.g, .string p.a, .string p.t, .string p.c, .string p.v, .int .i64 p.sc] rfl rfl 48 _ HRR.out (by kernel_rfl) rfl (by simp [Value.oneCell']) ?_)
        refine bodyPost_ret (find_results _ _ R #[.string p.g, .string p.a, .string p.t, .string p.c, .string p.v, .int .i64 p.sc] rfl _ rfl rfl (setRow_heap wa R _ _ _ _ HRR.out)) rfl ?_
        refine ⟨?_, below_setRow (HB0.out.trans (HBW.out.mono HB0.out.size)) HRG.out⟩
        rw [findP_at HP.out HS.out HALL.out]; rfl
    · have hlt' : (l.length : Int) ≤ I := by omega
      have HRR := Lib.hid ((hb.block R (Array.getElem?_eq_some_iff.1 HROW.out).1).trans HROW.out)
      have HF := Lib.hid (show findP q l = none from findP_none fun j p hj hp => HALL.out j p (by omega) hp)
      clear hb hI hIt
      go_wp2_with (refine wpList_store_row rfl 48 _ _ rfl R #[.string ⟨#[]⟩, .string ⟨#[]⟩, .string ⟨#[]⟩, .string ⟨#[]⟩, .string ⟨#[]⟩, .int .i64 0] rfl rfl 48 _ HRR.out (by kernel_rfl) rfl (by simp [Value.oneCell']) ?_)
      refine bodyPost_ret (find_results _ _ R #[.string ⟨#[]⟩, .string ⟨#[]⟩, .string ⟨#[]⟩, .string ⟨#[]⟩, .string ⟨#[]⟩, .int .i64 0] rfl _ rfl rfl (setRow_heap wr R _ _ _ _ HRR.out)) rfl ?_
      refine ⟨?_, below_setRow (HB0.out.trans (HB.out.mono HB0.out.size)) HRG.out⟩
      rw [HF.out]; rfl
end Go.Proofs.Ytoibanffaebllaa
