/-
  Layer 2: the contract of the closure that All defers; All's results. Own work.
-/
import Derived.Test.YtpbkidmdfibaoaaGreatDoorTok2
import Derived.Defers
import Derived.Recover
import Derived.Laws.Pointers
namespace Go.Proofs.YtpbkidmdfibaoaaGreatDoor
set_option linter.unusedVariables false
set_option linter.unusedSimpArgs false
open Go.RowKit

/-- the variables of the results -/
structure Res2 (w : World) (L E P : Nat) (x y p0 p1 p2 : Value) : Prop where
  l : w.heap[L]? = some (.cells #[x] 42 (0, 0))
  e : w.heap[E]? = some (.cells #[y] 27 (0, 0))
  p : w.heap[P]? = some (.cells #[p0, p1, p2] 29 (0, 0))
theorem catch_idle (L E P : Nat) (w : World) :
    CallsD Tryz.prog 37 #[.pointer (some ⟨L, 0, none⟩), .pointer (some ⟨E, 0, none⟩), .pointer (some ⟨P, 0, none⟩)] .returning w fun e u' w' => e = .returned (.tuple #[]) ∧ u' = .returning ∧ w' = w := by
  refine callsD_of_wpS Tryz.func37 rfl fun c₀ cs hu => ?_
  apply wpS_seq
  apply wpS_region
  simp [wpOpsS, go_sem, recoverD, hu, Tryz.ntmps37, Exit.thenS]
  refine wpS_of_wp ?_
  change Code.wp Tryz.prog _ _ ⟨#[.pointer (some ⟨L, 0, none⟩), .pointer (some ⟨E, 0, none⟩), .pointer (some ⟨P, 0, none⟩), .nilIface, undef, .nilIface, undef, undef, undef, undef, undef, undef, undef, undef], []⟩ w
  go_wp2
  cases c₀
  simp_all [bodyPostS, results, Tryz.results37]
theorem below_setRow2 {w w' : World} {B V : Nat} {cs : Array Value} (h : Below B w w') (hB : B ≤ V) : Below B w (w'.setRow V cs) :=
  ⟨h.os, h.tape, h.output, by simpa using h.size, fun k hk => (setRow_other w' V k cs (by omega)).trans (h.block k hk)⟩
theorem heap_alloc2_new (w : World) (a b : Obj) : ((w.alloc a).alloc b).heap[w.heap.size + 1]? = some b := by
  have := heap_alloc_new (w.alloc a) b
  simpa using this
theorem Res2.drew {w : World} {L E P : Nat} {x y p0 p1 p2 : Value} (h : Res2 w L E P x y p0 p1 p2) : Res2 w.drew L E P x y p0 p1 p2 := ⟨h.l, h.e, h.p⟩
theorem res_put {w : World} {L E P : Nat} {x y p0 p1 p2 : Value} (h : Res2 w L E P x y p0 p1 p2) (hLE : L ≠ E) (hLP : L ≠ P) (hEP : E ≠ P) (e0 o pl pc : Int) :
    Res2 (((((w.setCell ⟨L, 0, none⟩ (.slice none 0 0)).setCell ⟨E, 0, none⟩ (.int .i64 e0)).setCell ⟨P, 0, none⟩ (.int .i64 o)).setCell ⟨P, 1, none⟩ (.int .i64 pl)).setCell ⟨P, 2, none⟩ (.int .i64 pc)) L E P (.slice none 0 0) (.int .i64 e0) (.int .i64 o) (.int .i64 pl) (.int .i64 pc) ∧
    ∀ k, k ≠ L → k ≠ E → k ≠ P → (((((w.setCell ⟨L, 0, none⟩ (.slice none 0 0)).setCell ⟨E, 0, none⟩ (.int .i64 e0)).setCell ⟨P, 0, none⟩ (.int .i64 o)).setCell ⟨P, 1, none⟩ (.int .i64 pl)).setCell ⟨P, 2, none⟩ (.int .i64 pc)).heap[k]? = w.heap[k]? := by
  have o1 : ∀ (w : World) (v : Value) (k o : Nat), k ≠ L → (w.setCell ⟨L, o, none⟩ v).heap[k]? = w.heap[k]? := fun w v k o hk => heap_setCell_other w ⟨L, o, none⟩ k v hk
  have o2 : ∀ (w : World) (v : Value) (k o : Nat), k ≠ E → (w.setCell ⟨E, o, none⟩ v).heap[k]? = w.heap[k]? := fun w v k o hk => heap_setCell_other w ⟨E, o, none⟩ k v hk
  have o3 : ∀ (w : World) (v : Value) (k o : Nat), k ≠ P → (w.setCell ⟨P, o, none⟩ v).heap[k]? = w.heap[k]? := fun w v k o hk => heap_setCell_other w ⟨P, o, none⟩ k v hk
  refine ⟨⟨?_, ?_, ?_⟩, fun k h1 h2 h3 => ?_⟩
  · rw [o3 _ _ _ _ hLP, o3 _ _ _ _ hLP, o3 _ _ _ _ hLP, o2 _ _ _ _ hLE]
    have := heap_setCell_same w L 0 _ _ (.slice none 0 0) h.l
    simpa using this
  · rw [o3 _ _ _ _ hEP, o3 _ _ _ _ hEP, o3 _ _ _ _ hEP]
    have := heap_setCell_same (w.setCell ⟨L, 0, none⟩ (.slice none 0 0)) E 0 _ _ (.int .i64 e0) ((o1 _ _ _ _ (Ne.symm hLE)).trans h.e)
    simpa using this
  · have hp : ((w.setCell ⟨L, 0, none⟩ (.slice none 0 0)).setCell ⟨E, 0, none⟩ (.int .i64 e0)).heap[P]? = _ := (o2 _ _ _ _ (Ne.symm hEP)).trans ((o1 _ _ _ _ (Ne.symm hLP)).trans h.p)
    have r1 := heap_setCell_same _ P 0 _ _ (.int .i64 o) hp
    have r2 := heap_setCell_same _ P 1 _ _ (.int .i64 pl) r1
    have r3 := heap_setCell_same _ P 2 _ _ (.int .i64 pc) r2
    simpa using r3
  · rw [o3 _ _ _ _ h3, o3 _ _ _ _ h3, o3 _ _ _ _ h3, o2 _ _ _ _ h2, o1 _ _ _ _ h1]
theorem cau_results (tmps : Array Value) (w : World) (R : Nat) (cs : Array Value) (hs : cs.size = 4) (h2 : tmps.getD 2 undef = .pointer (some ⟨R, 0, none⟩))
    (hR : w.heap[R]? = some (.cells cs 72 (0, 0))) :
    (results Tryz.f38 tmps).run Tryz.prog w = .ok (.agg cs) w := by
  have h2' : tmps[2]?.getD undef = .pointer (some ⟨R, 0, none⟩) := by simpa using h2
  have l1 := run_loadVar_row w R 72 72 cs (0, 0) _ hR Tryz.underlying72 rfl (by rw [hs]; kernel_rfl)
  simp [results, Tryz.results38, h2', asAddr, l1]
theorem as_fault (v : Value) (w : World) : (Instr.typeAssert (.iface 72 v) 20 72 true).run Tryz.prog w = .ok (.tuple #[v, .bool true]) w := by kernel_rfl
set_option maxRecDepth 100000 in
set_option maxHeartbeats 1000000 in
theorem caught_any (e0 o pl pc : Int) (w : World) :
    Calls Tryz.prog 38 #[.iface 72 (.agg #[.int .i64 e0, .int .i64 o, .int .i64 pl, .int .i64 pc])] w fun e w' => e = .returned (.agg #[.int .i64 e0, .int .i64 o, .int .i64 pl, .int .i64 pc]) ∧ Below w.heap.size w w' := by
  obtain ⟨w2, hw2⟩ : ∃ w2, w2 = (w.alloc (.cells #[.int .i64 0, .int .i64 0, .int .i64 0, .int .i64 0] 72)).alloc (.cells #[.int .i64 e0, .int .i64 o, .int .i64 pl, .int .i64 pc] 72) := ⟨_, rfl⟩
  have hb : Below w.heap.size w w2 := by rw [hw2]; exact ((Below.refl w.heap.size w).alloc (Nat.le_refl _) _).alloc (by simp) _
  have hR : w2.heap[w.heap.size]? = some (.cells #[.int .i64 0, .int .i64 0, .int .i64 0, .int .i64 0] 72 (0, 0)) := by rw [hw2, Below.heap_alloc _ _ _ (by simp)]; exact heap_alloc_new w _
  have HB := Lib.hid hb
  have HR := Lib.hid hR
  have HW := Lib.hid hw2
  have has := as_fault (.agg #[.int .i64 e0, .int .i64 o, .int .i64 pl, .int .i64 pc])
  clear hb hR hw2
  go_enter Tryz.func38, Tryz.ntmps38
  go_upto_region 4 with fail
  rw [← HW.out]
  obtain ⟨R, hR⟩ : ∃ R, R = w.heap.size + 1 := ⟨_, rfl⟩
  have hrow : w2.heap[R]? = some (.cells #[.int .i64 e0, .int .i64 o, .int .i64 pl, .int .i64 pc] 72 (0, 0)) := by
    rw [hR, HW.out]
    exact heap_alloc2_new w _ _
  simp only [← hR]
  have z0 := cell_of_row w2 R 0 _ _ (0, 0) hrow
  have z1 := cell_of_row w2 R 1 _ _ (0, 0) hrow
  have z2 := cell_of_row w2 R 2 _ _ (0, 0) hrow
  have z3 := cell_of_row w2 R 3 _ _ (0, 0) hrow
  clear hrow hR has
  go_wp2_with (refine wpList_store_row rfl 72 _ _ rfl w.heap.size #[.int .i64 e0, .int .i64 o, .int .i64 pl, .int .i64 pc] rfl rfl 72 _ HR.out (by kernel_rfl) rfl (by simp [Value.oneCell']) ?_)
  refine bodyPost_ret (cau_results _ _ w.heap.size #[.int .i64 e0, .int .i64 o, .int .i64 pl, .int .i64 pc] rfl rfl (setRow_heap _ w.heap.size _ _ _ _ HR.out)) rfl ?_
  exact ⟨rfl, below_setRow2 HB.out (Nat.le_refl _)⟩
set_option maxRecDepth 100000 in
set_option maxHeartbeats 4000000 in
theorem catch_bad (L E P : Nat) (hLE : L ≠ E) (hLP : L ≠ P) (hEP : E ≠ P) (e0 o pl pc : Int) (w : World) {x y p0 p1 p2 : Value} (h : Res2 w L E P x y p0 p1 p2) :
    CallsD Tryz.prog 37 #[.pointer (some ⟨L, 0, none⟩), .pointer (some ⟨E, 0, none⟩), .pointer (some ⟨P, 0, none⟩)] (.panicking ({ v := .iface 72 (.agg #[.int .i64 e0, .int .i64 o, .int .i64 pl, .int .i64 pc]), recovered := false } :: [])) w fun e u' w' =>
      e = .returned (.tuple #[]) ∧ u' = .panicking ({ v := .iface 72 (.agg #[.int .i64 e0, .int .i64 o, .int .i64 pl, .int .i64 pc]), recovered := true } :: []) ∧
        Res2 w' L E P (.slice none 0 0) (.int .i64 e0) (.int .i64 o) (.int .i64 pl) (.int .i64 pc) ∧ (∀ k, k < w.heap.size → k ≠ L → k ≠ E → k ≠ P → w'.heap[k]? = w.heap[k]?) ∧ w'.os = w.os ∧ w'.tape = w.tape ∧ w'.output = w.output ∧ w.heap.size ≤ w'.heap.size := by
  have H := Lib.hid h
  have HC := Lib.hid (caught_any e0 o pl pc w)
  have HN := Lib.hid (And.intro hLE (And.intro hLP hEP))
  clear h
  refine callsD_of_wpS Tryz.func37 rfl fun c₀ cs hu => ?_
  apply wpS_seq
  apply wpS_region
  simp [wpOpsS, go_sem, recoverD, hu, Tryz.ntmps37, Exit.thenS]
  refine wpS_of_wp ?_
  change Code.wp Tryz.prog _ _ ⟨#[.pointer (some ⟨L, 0, none⟩), .pointer (some ⟨E, 0, none⟩), .pointer (some ⟨P, 0, none⟩), .iface 72 (.agg #[.int .i64 e0, .int .i64 o, .int .i64 pl, .int .i64 pc]), undef, .iface 72 (.agg #[.int .i64 e0, .int .i64 o, .int .i64 pl, .int .i64 pc]), undef, undef, undef, undef, undef, undef, undef, undef], []⟩ w
  go_wp2_with fail
  refine HC.out.mono ?_
  rintro e w2 ⟨rfl, hb⟩
  have hlt1 := (Array.getElem?_eq_some_iff.1 H.out.l).1
  have hlt2 := (Array.getElem?_eq_some_iff.1 H.out.e).1
  have hlt3 := (Array.getElem?_eq_some_iff.1 H.out.p).1
  have hz2 := hb.size
  obtain ⟨w3, hw3⟩ : ∃ w3, w3 = w2.alloc (.cells #[.int .i64 e0, .int .i64 o, .int .i64 pl, .int .i64 pc] 72) := ⟨_, rfl⟩
  have hb3 : Below w.heap.size w w3 := by rw [hw3]; exact hb.alloc hz2 _
  have hT : w3.heap[w2.heap.size]? = some (.cells #[.int .i64 e0, .int .i64 o, .int .i64 pl, .int .i64 pc] 72 (0, 0)) := by rw [hw3]; exact heap_alloc_new w2 _
  have HB3 := Lib.hid hb3
  have hR3 : Res2 w3 L E P x y p0 p1 p2 := ⟨(hb3.block L hlt1).trans H.out.l, (hb3.block E hlt2).trans H.out.e, (hb3.block P hlt3).trans H.out.p⟩
  have HR3 := Lib.hid hR3
  have HW3 := Lib.hid hw3
  have hTL : ¬ L = w2.heap.size := by omega
  have hTE : ¬ E = w2.heap.size := by omega
  have hTP : ¬ P = w2.heap.size := by omega
  clear hw3 hb hlt1 hlt2 hlt3 hb3
  go_upto_region 3 with fail
  rw [← HW3.out]
  generalize w2.heap.size = T at hT hTL hTE hTP ⊢
  have n1 : ¬ L = E := hLE
  have n2 : ¬ L = P := hLP
  have n3 : ¬ E = P := hEP
  have n4 : ¬ E = L := fun e => hLE e.symm
  have n5 : ¬ P = L := fun e => hLP e.symm
  have n6 : ¬ P = E := fun e => hEP e.symm
  have z0 : w3.cell? ⟨T, 0, none⟩ = some (.int .i64 e0) := by rw [cell_of_row w3 T 0 _ _ (0, 0) hT]; rfl
  have z1 : w3.cell? ⟨T, 1, none⟩ = some (.int .i64 o) := by rw [cell_of_row w3 T 1 _ _ (0, 0) hT]; rfl
  have z2 : w3.cell? ⟨T, 2, none⟩ = some (.int .i64 pl) := by rw [cell_of_row w3 T 2 _ _ (0, 0) hT]; rfl
  have z3 : w3.cell? ⟨T, 3, none⟩ = some (.int .i64 pc) := by rw [cell_of_row w3 T 3 _ _ (0, 0) hT]; rfl
  have a0 : w3.cell? ⟨L, 0, none⟩ = some x := by rw [cell_of_row w3 L 0 _ _ (0, 0) hR3.l]; rfl
  have a1 : w3.cell? ⟨E, 0, none⟩ = some y := by rw [cell_of_row w3 E 0 _ _ (0, 0) hR3.e]; rfl
  have a2 : w3.cell? ⟨P, 0, none⟩ = some p0 := by rw [cell_of_row w3 P 0 _ _ (0, 0) hR3.p]; rfl
  have a3 : w3.cell? ⟨P, 1, none⟩ = some p1 := by rw [cell_of_row w3 P 1 _ _ (0, 0) hR3.p]; rfl
  have a4 : w3.cell? ⟨P, 2, none⟩ = some p2 := by rw [cell_of_row w3 P 2 _ _ (0, 0) hR3.p]; rfl
  have f0 : w3.frozen? ⟨L, 0, none⟩ = false := frozen_of_row w3 _ 0 _ _ hR3.l
  have f1 : w3.frozen? ⟨E, 0, none⟩ = false := frozen_of_row w3 _ 0 _ _ hR3.e
  have f2 : w3.frozen? ⟨P, 0, none⟩ = false := frozen_of_row w3 _ 0 _ _ hR3.p
  have f3 : w3.frozen? ⟨P, 1, none⟩ = false := frozen_of_row w3 _ 1 _ _ hR3.p
  have f4 : w3.frozen? ⟨P, 2, none⟩ = false := frozen_of_row w3 _ 2 _ _ hR3.p
  clear hT hR3 hLE hLP hEP
  go_region
  go_wp2
  obtain ⟨u1, u2⟩ := res_put HR3.out HN.out.1 HN.out.2.1 HN.out.2.2 e0 o pl pc
  refine ⟨rfl, _, rfl, .tuple #[], by simp [results, Tryz.results37], rfl, rfl, u1.drew, fun k hk h1 h2 h3 => (u2 k h1 h2 h3).trans (HB3.out.block k hk), HB3.out.os, HB3.out.tape, HB3.out.output, ?_⟩
  simpa using HB3.out.size
end Go.Proofs.YtpbkidmdfibaoaaGreatDoor
