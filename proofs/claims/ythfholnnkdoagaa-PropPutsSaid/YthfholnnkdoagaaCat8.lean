/-
  Layer 8: the closures that Expand and All defer; their results. Own work.
-/
import Derived.Test.YthfholnnkdoagaaNeW8
import Derived.Defers
import Derived.Recover
import Derived.Laws.Pointers
namespace Go.Proofs.Ythfholnnkdoagaa
set_option linter.unusedVariables false
set_option linter.unusedSimpArgs false
open Go.RowKit

/-- the variables of the results -/
structure Res8 (t : TypeId) (w : World) (L E N : Nat) (x y z : Value) : Prop where
  l : w.heap[L]? = some (.cells #[x] t (0, 0))
  e : w.heap[E]? = some (.cells #[y] 42 (0, 0))
  n : w.heap[N]? = some (.cells #[z] 9 (0, 0))
theorem Res8.drew {t : TypeId} {w : World} {L E N : Nat} {x y z : Value} (h : Res8 t w L E N x y z) : Res8 t w.drew L E N x y z := ⟨h.l, h.e, h.n⟩
theorem res_put8 {t : TypeId} {w : World} {L E N : Nat} {x y z : Value} (h : Res8 t w L E N x y z) (hLE : L ≠ E) (hLN : L ≠ N) (hEN : E ≠ N) (a b c : Value) (w' : World) (hw' : w' = ((w.setCell ⟨L, 0, none⟩ a).setCell ⟨E, 0, none⟩ b).setCell ⟨N, 0, none⟩ c) :
    Res8 t w' L E N a b c ∧ ∀ k, k ≠ L → k ≠ E → k ≠ N → w'.heap[k]? = w.heap[k]? := by
  subst hw'
  have o1 : ∀ (w : World) (v : Value) (k o : Nat), k ≠ L → (w.setCell ⟨L, o, none⟩ v).heap[k]? = w.heap[k]? := fun w v k o hk => heap_setCell_other w ⟨L, o, none⟩ k v hk
  have o2 : ∀ (w : World) (v : Value) (k o : Nat), k ≠ E → (w.setCell ⟨E, o, none⟩ v).heap[k]? = w.heap[k]? := fun w v k o hk => heap_setCell_other w ⟨E, o, none⟩ k v hk
  have o3 : ∀ (w : World) (v : Value) (k o : Nat), k ≠ N → (w.setCell ⟨N, o, none⟩ v).heap[k]? = w.heap[k]? := fun w v k o hk => heap_setCell_other w ⟨N, o, none⟩ k v hk
  refine ⟨⟨?_, ?_, ?_⟩, fun k h1 h2 h3 => ?_⟩
  · rw [o3 _ _ _ _ hLN, o2 _ _ _ _ hLE]
    have := heap_setCell_same w L 0 _ _ a h.l
    simpa using this
  · rw [o3 _ _ _ _ hEN]
    have := heap_setCell_same (w.setCell ⟨L, 0, none⟩ a) E 0 _ _ b ((o1 _ _ _ _ (Ne.symm hLE)).trans h.e)
    simpa using this
  · have hp : ((w.setCell ⟨L, 0, none⟩ a).setCell ⟨E, 0, none⟩ b).heap[N]? = _ := (o2 _ _ _ _ (Ne.symm hEN)).trans ((o1 _ _ _ _ (Ne.symm hLN)).trans h.n)
    have r1 := heap_setCell_same _ N 0 _ _ c hp
    simpa using r1
  · rw [o3 _ _ _ _ h3, o2 _ _ _ _ h2, o1 _ _ _ _ h1]
theorem cau_results (tmps : Array Value) (w : World) (R : Nat) (cs : Array Value) (hs : cs.size = 2) (h2 : tmps.getD 2 undef = .pointer (some ⟨R, 0, none⟩))
    (hR : w.heap[R]? = some (.cells cs 77 (0, 0))) :
    (results Try.f35 tmps).run Try.prog w = .ok (.agg cs) w := by
  have h2' : tmps[2]?.getD undef = .pointer (some ⟨R, 0, none⟩) := by simpa using h2
  have l1 := run_loadVar_row w R 77 77 cs (0, 0) _ hR Try.underlying77 rfl (by rw [hs]; kernel_rfl)
  simp [results, Try.results35, h2', asAddr, l1]
theorem as_fault (v : Value) (w : World) : (Instr.typeAssert (.iface 77 v) 20 77 true).run Try.prog w = .ok (.tuple #[v, .bool true]) w := by kernel_rfl
theorem below_setRow2 {w w' : World} {B V : Nat} {cs : Array Value} (h : Below B w w') (hB : B ≤ V) : Below B w (w'.setRow V cs) :=
  ⟨h.os, h.tape, h.output, by simpa using h.size, fun k hk => (setRow_other w' V k cs (by omega)).trans (h.block k hk)⟩
theorem heap_alloc2_new (w : World) (a b : Obj) : ((w.alloc a).alloc b).heap[w.heap.size + 1]? = some b := by
  have := heap_alloc_new (w.alloc a) b
  simpa using this
set_option maxRecDepth 100000 in
set_option maxHeartbeats 1000000 in
theorem caught_any (e0 : Int) (nm : ByteArray) (w : World) :
    Calls Try.prog 35 #[.iface 77 (.agg #[.int .i64 e0, .string nm])] w fun e w' => e = .returned (.agg #[.int .i64 e0, .string nm]) ∧ Below w.heap.size w w' := by
  obtain ⟨w2, hw2⟩ : ∃ w2, w2 = (w.alloc (.cells #[.int .i64 0, .string ⟨#[]⟩] 77)).alloc (.cells #[.int .i64 e0, .string nm] 77) := ⟨_, rfl⟩
  have hb : Below w.heap.size w w2 := by rw [hw2]; exact ((Below.refl w.heap.size w).alloc (Nat.le_refl _) _).alloc (by simp) _
  have hR : w2.heap[w.heap.size]? = some (.cells #[.int .i64 0, .string ⟨#[]⟩] 77 (0, 0)) := by rw [hw2, Below.heap_alloc _ _ _ (by simp)]; exact heap_alloc_new w _
  have HB := Lib.hid hb
  have HR := Lib.hid hR
  have HW := Lib.hid hw2
  have has := as_fault (.agg #[.int .i64 e0, .string nm])
  clear hb hR hw2
  go_enter Try.func35, Try.ntmps35
  go_upto_region 4 with fail
  rw [← HW.out]
  obtain ⟨R, hR⟩ : ∃ R, R = w.heap.size + 1 := ⟨_, rfl⟩
  have hrow : w2.heap[R]? = some (.cells #[.int .i64 e0, .string nm] 77 (0, 0)) := by
    rw [hR, HW.out]
    exact heap_alloc2_new w _ _
  simp only [← hR]
  have z0 := cell_of_row w2 R 0 _ _ (0, 0) hrow
  have z1 := cell_of_row w2 R 1 _ _ (0, 0) hrow
  clear hrow hR has
  go_wp2_with (refine wpList_store_row rfl 77 _ _ rfl w.heap.size #[.int .i64 e0, .string nm] rfl rfl 77 _ HR.out (by kernel_rfl) rfl (by simp [Value.oneCell']) ?_)
  refine bodyPost_ret (cau_results _ _ w.heap.size #[.int .i64 e0, .string nm] rfl rfl (setRow_heap _ w.heap.size _ _ _ _ HR.out)) rfl ?_
  exact ⟨rfl, below_setRow2 HB.out (Nat.le_refl _)⟩

theorem idle_exp (L E N : Nat) (w : World) :
    CallsD Try.prog 34 #[.pointer (some ⟨L, 0, none⟩), .pointer (some ⟨E, 0, none⟩), .pointer (some ⟨N, 0, none⟩)] .returning w fun e u' w' => e = .returned (.tuple #[]) ∧ u' = .returning ∧ w' = w := by
  refine callsD_of_wpS Try.func34 rfl fun c₀ cs hu => ?_
  apply wpS_seq
  apply wpS_region
  simp [wpOpsS, go_sem, recoverD, hu, Try.ntmps34, Exit.thenS]
  refine wpS_of_wp ?_
  change Code.wp Try.prog _ _ ⟨#[.pointer (some ⟨L, 0, none⟩), .pointer (some ⟨E, 0, none⟩), .pointer (some ⟨N, 0, none⟩), .nilIface, undef, .nilIface, undef, undef, undef, undef, undef, undef, undef, undef], []⟩ w
  go_wp2
  cases c₀
  simp_all [bodyPostS, results, Try.results34]
set_option maxRecDepth 100000 in
set_option maxHeartbeats 4000000 in
theorem bad_exp (L E N : Nat) (hLE : L ≠ E) (hLN : L ≠ N) (hEN : E ≠ N) (e0 : Int) (nm : ByteArray) (w : World) {x y z : Value} (h : Res8 9 w L E N x y z) :
    CallsD Try.prog 34 #[.pointer (some ⟨L, 0, none⟩), .pointer (some ⟨E, 0, none⟩), .pointer (some ⟨N, 0, none⟩)] (.panicking ({ v := .iface 77 (.agg #[.int .i64 e0, .string nm]), recovered := false } :: [])) w fun e u' w' =>
      e = .returned (.tuple #[]) ∧ u' = .panicking ({ v := .iface 77 (.agg #[.int .i64 e0, .string nm]), recovered := true } :: []) ∧
        Res8 9 w' L E N (.string ⟨#[]⟩) (.int .i64 e0) (.string nm) ∧ (∀ k, k < w.heap.size → k ≠ L → k ≠ E → k ≠ N → w'.heap[k]? = w.heap[k]?) ∧ w'.os = w.os ∧ w'.tape = w.tape ∧ w'.output = w.output ∧ w.heap.size ≤ w'.heap.size := by
  have H := Lib.hid h
  have HC := Lib.hid (caught_any e0 nm w)
  have HN := Lib.hid (And.intro hLE (And.intro hLN hEN))
  clear h
  refine callsD_of_wpS Try.func34 rfl fun c₀ cs hu => ?_
  apply wpS_seq
  apply wpS_region
  simp [wpOpsS, go_sem, recoverD, hu, Try.ntmps34, Exit.thenS]
  refine wpS_of_wp ?_
  change Code.wp Try.prog _ _ ⟨#[.pointer (some ⟨L, 0, none⟩), .pointer (some ⟨E, 0, none⟩), .pointer (some ⟨N, 0, none⟩), .iface 77 (.agg #[.int .i64 e0, .string nm]), undef, .iface 77 (.agg #[.int .i64 e0, .string nm]), undef, undef, undef, undef, undef, undef, undef, undef], []⟩ w
  go_wp2_with fail
  refine HC.out.mono ?_
  rintro e w2 ⟨rfl, hb⟩
  have hlt1 := (Array.getElem?_eq_some_iff.1 H.out.l).1
  have hlt2 := (Array.getElem?_eq_some_iff.1 H.out.e).1
  have hlt3 := (Array.getElem?_eq_some_iff.1 H.out.n).1
  have hz2 := hb.size
  obtain ⟨w3, hw3⟩ : ∃ w3, w3 = w2.alloc (.cells #[.int .i64 e0, .string nm] 77) := ⟨_, rfl⟩
  have hb3 : Below w.heap.size w w3 := by rw [hw3]; exact hb.alloc hz2 _
  have hT : w3.heap[w2.heap.size]? = some (.cells #[.int .i64 e0, .string nm] 77 (0, 0)) := by rw [hw3]; exact heap_alloc_new w2 _
  have HB3 := Lib.hid hb3
  have hR3 : Res8 9 w3 L E N x y z := ⟨(hb3.block L hlt1).trans H.out.l, (hb3.block E hlt2).trans H.out.e, (hb3.block N hlt3).trans H.out.n⟩
  have HR3 := Lib.hid hR3
  have HW3 := Lib.hid hw3
  have hTL : ¬ L = w2.heap.size := by omega
  have hTE : ¬ E = w2.heap.size := by omega
  have hTP : ¬ N = w2.heap.size := by omega
  clear hw3 hb hlt1 hlt2 hlt3 hb3
  go_upto_region 3 with fail
  rw [← HW3.out]
  generalize w2.heap.size = T at hT hTL hTE hTP ⊢
  have n1 : ¬ L = E := hLE
  have n2 : ¬ L = N := hLN
  have n3 : ¬ E = N := hEN
  have n4 : ¬ E = L := fun e => hLE e.symm
  have n5 : ¬ N = L := fun e => hLN e.symm
  have n6 : ¬ N = E := fun e => hEN e.symm
  have z0 : w3.cell? ⟨T, 0, none⟩ = some (.int .i64 e0) := by rw [cell_of_row w3 T 0 _ _ (0, 0) hT]; rfl
  have z1 : w3.cell? ⟨T, 1, none⟩ = some (.string nm) := by rw [cell_of_row w3 T 1 _ _ (0, 0) hT]; rfl
  have a0 : w3.cell? ⟨L, 0, none⟩ = some x := by rw [cell_of_row w3 L 0 _ _ (0, 0) hR3.l]; rfl
  have a1 : w3.cell? ⟨E, 0, none⟩ = some y := by rw [cell_of_row w3 E 0 _ _ (0, 0) hR3.e]; rfl
  have a2 : w3.cell? ⟨N, 0, none⟩ = some z := by rw [cell_of_row w3 N 0 _ _ (0, 0) hR3.n]; rfl
  have f0 : w3.frozen? ⟨L, 0, none⟩ = false := frozen_of_row w3 _ 0 _ _ hR3.l
  have f1 : w3.frozen? ⟨E, 0, none⟩ = false := frozen_of_row w3 _ 0 _ _ hR3.e
  have f2 : w3.frozen? ⟨N, 0, none⟩ = false := frozen_of_row w3 _ 0 _ _ hR3.n
  clear hT hR3 hLE hLN hEN
  go_region
  go_wp2
  obtain ⟨u1, u2⟩ := res_put8 HR3.out HN.out.1 HN.out.2.1 HN.out.2.2 (.string ⟨#[]⟩) (.int .i64 e0) (.string nm) _ rfl
  refine ⟨rfl, _, rfl, .tuple #[], by simp [results, Try.results34], rfl, rfl, u1.drew, fun k hk h1 h2 h3 => (u2 k h1 h2 h3).trans (HB3.out.block k hk), HB3.out.os, HB3.out.tape, HB3.out.output, ?_⟩
  simpa using HB3.out.size

theorem idle_all (L E N : Nat) (w : World) :
    CallsD Try.prog 39 #[.pointer (some ⟨L, 0, none⟩), .pointer (some ⟨E, 0, none⟩), .pointer (some ⟨N, 0, none⟩)] .returning w fun e u' w' => e = .returned (.tuple #[]) ∧ u' = .returning ∧ w' = w := by
  refine callsD_of_wpS Try.func39 rfl fun c₀ cs hu => ?_
  apply wpS_seq
  apply wpS_region
  simp [wpOpsS, go_sem, recoverD, hu, Try.ntmps39, Exit.thenS]
  refine wpS_of_wp ?_
  change Code.wp Try.prog _ _ ⟨#[.pointer (some ⟨L, 0, none⟩), .pointer (some ⟨E, 0, none⟩), .pointer (some ⟨N, 0, none⟩), .nilIface, undef, .nilIface, undef, undef, undef, undef, undef, undef, undef, undef], []⟩ w
  go_wp2
  cases c₀
  simp_all [bodyPostS, results, Try.results39]
set_option maxRecDepth 100000 in
set_option maxHeartbeats 4000000 in
theorem bad_all (L E N : Nat) (hLE : L ≠ E) (hLN : L ≠ N) (hEN : E ≠ N) (e0 : Int) (nm : ByteArray) (w : World) {x y z : Value} (h : Res8 27 w L E N x y z) :
    CallsD Try.prog 39 #[.pointer (some ⟨L, 0, none⟩), .pointer (some ⟨E, 0, none⟩), .pointer (some ⟨N, 0, none⟩)] (.panicking ({ v := .iface 77 (.agg #[.int .i64 e0, .string nm]), recovered := false } :: [])) w fun e u' w' =>
      e = .returned (.tuple #[]) ∧ u' = .panicking ({ v := .iface 77 (.agg #[.int .i64 e0, .string nm]), recovered := true } :: []) ∧
        Res8 27 w' L E N (.slice none 0 0) (.int .i64 e0) (.string nm) ∧ (∀ k, k < w.heap.size → k ≠ L → k ≠ E → k ≠ N → w'.heap[k]? = w.heap[k]?) ∧ w'.os = w.os ∧ w'.tape = w.tape ∧ w'.output = w.output ∧ w.heap.size ≤ w'.heap.size := by
  have H := Lib.hid h
  have HC := Lib.hid (caught_any e0 nm w)
  have HN := Lib.hid (And.intro hLE (And.intro hLN hEN))
  clear h
  refine callsD_of_wpS Try.func39 rfl fun c₀ cs hu => ?_
  apply wpS_seq
  apply wpS_region
  simp [wpOpsS, go_sem, recoverD, hu, Try.ntmps39, Exit.thenS]
  refine wpS_of_wp ?_
  change Code.wp Try.prog _ _ ⟨#[.pointer (some ⟨L, 0, none⟩), .pointer (some ⟨E, 0, none⟩), .pointer (some ⟨N, 0, none⟩), .iface 77 (.agg #[.int .i64 e0, .string nm]), undef, .iface 77 (.agg #[.int .i64 e0, .string nm]), undef, undef, undef, undef, undef, undef, undef, undef], []⟩ w
  go_wp2_with fail
  refine HC.out.mono ?_
  rintro e w2 ⟨rfl, hb⟩
  have hlt1 := (Array.getElem?_eq_some_iff.1 H.out.l).1
  have hlt2 := (Array.getElem?_eq_some_iff.1 H.out.e).1
  have hlt3 := (Array.getElem?_eq_some_iff.1 H.out.n).1
  have hz2 := hb.size
  obtain ⟨w3, hw3⟩ : ∃ w3, w3 = w2.alloc (.cells #[.int .i64 e0, .string nm] 77) := ⟨_, rfl⟩
  have hb3 : Below w.heap.size w w3 := by rw [hw3]; exact hb.alloc hz2 _
  have hT : w3.heap[w2.heap.size]? = some (.cells #[.int .i64 e0, .string nm] 77 (0, 0)) := by rw [hw3]; exact heap_alloc_new w2 _
  have HB3 := Lib.hid hb3
  have hR3 : Res8 27 w3 L E N x y z := ⟨(hb3.block L hlt1).trans H.out.l, (hb3.block E hlt2).trans H.out.e, (hb3.block N hlt3).trans H.out.n⟩
  have HR3 := Lib.hid hR3
  have HW3 := Lib.hid hw3
  have hTL : ¬ L = w2.heap.size := by omega
  have hTE : ¬ E = w2.heap.size := by omega
  have hTP : ¬ N = w2.heap.size := by omega
  clear hw3 hb hlt1 hlt2 hlt3 hb3
  go_upto_region 3 with fail
  rw [← HW3.out]
  generalize w2.heap.size = T at hT hTL hTE hTP ⊢
  have n1 : ¬ L = E := hLE
  have n2 : ¬ L = N := hLN
  have n3 : ¬ E = N := hEN
  have n4 : ¬ E = L := fun e => hLE e.symm
  have n5 : ¬ N = L := fun e => hLN e.symm
  have n6 : ¬ N = E := fun e => hEN e.symm
  have z0 : w3.cell? ⟨T, 0, none⟩ = some (.int .i64 e0) := by rw [cell_of_row w3 T 0 _ _ (0, 0) hT]; rfl
  have z1 : w3.cell? ⟨T, 1, none⟩ = some (.string nm) := by rw [cell_of_row w3 T 1 _ _ (0, 0) hT]; rfl
  have a0 : w3.cell? ⟨L, 0, none⟩ = some x := by rw [cell_of_row w3 L 0 _ _ (0, 0) hR3.l]; rfl
  have a1 : w3.cell? ⟨E, 0, none⟩ = some y := by rw [cell_of_row w3 E 0 _ _ (0, 0) hR3.e]; rfl
  have a2 : w3.cell? ⟨N, 0, none⟩ = some z := by rw [cell_of_row w3 N 0 _ _ (0, 0) hR3.n]; rfl
  have f0 : w3.frozen? ⟨L, 0, none⟩ = false := frozen_of_row w3 _ 0 _ _ hR3.l
  have f1 : w3.frozen? ⟨E, 0, none⟩ = false := frozen_of_row w3 _ 0 _ _ hR3.e
  have f2 : w3.frozen? ⟨N, 0, none⟩ = false := frozen_of_row w3 _ 0 _ _ hR3.n
  clear hT hR3 hLE hLN hEN
  go_region
  go_wp2
  obtain ⟨u1, u2⟩ := res_put8 HR3.out HN.out.1 HN.out.2.1 HN.out.2.2 (.slice none 0 0) (.int .i64 e0) (.string nm) _ rfl
  refine ⟨rfl, _, rfl, .tuple #[], by simp [results, Try.results39], rfl, rfl, u1.drew, fun k hk h1 h2 h3 => (u2 k h1 h2 h3).trans (HB3.out.block k hk), HB3.out.os, HB3.out.tape, HB3.out.output, ?_⟩
  simpa using HB3.out.size

theorem results_exp (tmps : Array Value) (w : World) (L E N : Nat) (x y z : Value) (h2 : tmps.getD 4 undef = .pointer (some ⟨L, 0, none⟩)) (h3 : tmps.getD 5 undef = .pointer (some ⟨E, 0, none⟩)) (h4 : tmps.getD 6 undef = .pointer (some ⟨N, 0, none⟩))
    (h : Res8 9 w L E N x y z) :
    (results Try.f23 tmps).run Try.prog w = .ok (.tuple #[x, y, z]) w := by
  have h2' : tmps[4]?.getD undef = .pointer (some ⟨L, 0, none⟩) := by simpa using h2
  have h3' : tmps[5]?.getD undef = .pointer (some ⟨E, 0, none⟩) := by simpa using h3
  have h4' : tmps[6]?.getD undef = .pointer (some ⟨N, 0, none⟩) := by simpa using h4
  have cl : w.cell? ⟨L, 0, none⟩ = some x := by rw [cell_of_row w L 0 _ _ (0, 0) h.l]; rfl
  have ce : w.cell? ⟨E, 0, none⟩ = some y := by rw [cell_of_row w E 0 _ _ (0, 0) h.e]; rfl
  have cn : w.cell? ⟨N, 0, none⟩ = some z := by rw [cell_of_row w N 0 _ _ (0, 0) h.n]; rfl
  have l2 : (loadVar 9 ⟨L, 0, none⟩).run Try.prog w = .ok x w := by
    simp [loadVar, isAgg, Sem.run_bind, run_underlying Try.underlying9, cl]
  have l3 : (loadVar 42 ⟨E, 0, none⟩).run Try.prog w = .ok y w := by
    simp [loadVar, isAgg, Sem.run_bind, run_underlying Try.underlying42, ce]
  have l4 : (loadVar 9 ⟨N, 0, none⟩).run Try.prog w = .ok z w := by
    simp [loadVar, isAgg, Sem.run_bind, run_underlying Try.underlying9, cn]
  simp [results, Try.results23, h2', h3', h4', asAddr, l2, l3, l4, Sem.run_bind]

theorem results_all (tmps : Array Value) (w : World) (L E N : Nat) (x y z : Value) (h2 : tmps.getD 2 undef = .pointer (some ⟨L, 0, none⟩)) (h3 : tmps.getD 3 undef = .pointer (some ⟨E, 0, none⟩)) (h4 : tmps.getD 4 undef = .pointer (some ⟨N, 0, none⟩))
    (h : Res8 27 w L E N x y z) :
    (results Try.f26 tmps).run Try.prog w = .ok (.tuple #[x, y, z]) w := by
  have h2' : tmps[2]?.getD undef = .pointer (some ⟨L, 0, none⟩) := by simpa using h2
  have h3' : tmps[3]?.getD undef = .pointer (some ⟨E, 0, none⟩) := by simpa using h3
  have h4' : tmps[4]?.getD undef = .pointer (some ⟨N, 0, none⟩) := by simpa using h4
  have cl : w.cell? ⟨L, 0, none⟩ = some x := by rw [cell_of_row w L 0 _ _ (0, 0) h.l]; rfl
  have ce : w.cell? ⟨E, 0, none⟩ = some y := by rw [cell_of_row w E 0 _ _ (0, 0) h.e]; rfl
  have cn : w.cell? ⟨N, 0, none⟩ = some z := by rw [cell_of_row w N 0 _ _ (0, 0) h.n]; rfl
  have l2 : (loadVar 27 ⟨L, 0, none⟩).run Try.prog w = .ok x w := by
    simp [loadVar, isAgg, Sem.run_bind, run_underlying Try.underlying27, cl]
  have l3 : (loadVar 42 ⟨E, 0, none⟩).run Try.prog w = .ok y w := by
    simp [loadVar, isAgg, Sem.run_bind, run_underlying Try.underlying42, ce]
  have l4 : (loadVar 9 ⟨N, 0, none⟩).run Try.prog w = .ok z w := by
    simp [loadVar, isAgg, Sem.run_bind, run_underlying Try.underlying9, cn]
  simp [results, Try.results26, h2', h3', h4', asAddr, l2, l3, l4, Sem.run_bind]
end Go.Proofs.Ythfholnnkdoagaa
