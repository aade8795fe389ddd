/-
  Layer 25: the closures of diff that give the key at a place. Own work.
-/
import Derived.Test.YtoibanffaebllaaMem25
import Derived.Test.YtoibanffaebllaaMayL24
import Derived.Outline
namespace Go.Proofs.Ytoibanffaebllaa
set_option linter.unusedVariables false
set_option linter.unusedSimpArgs false
open Go.RowKit

set_option maxRecDepth 100000 in
set_option maxHeartbeats 1000000 in
theorem keyE1_any (i Ha : Nat) (g a v : ByteArray) (pv : Value) (A : List Pn) (p : Pn) (w : World) (hlk : LkIn w Ha g a v pv) (hr : RdN w pv A) (hp : A[i]? = some p) (hi : i ≤ 1000000) :
    Calls Try.prog 25 #[.int .i64 i, .pointer (some ⟨Ha, 0, none⟩)] w fun e w' => e = .returned p.key.val ∧ Below w.heap.size w w' := by
  obtain ⟨pa, pc, rfl⟩ := hr.shape
  obtain ⟨b, rfl, _, hl1, hl2, hc⟩ := hr.elem hp
  have hil : (i : Int) < A.length := by have := (List.getElem?_eq_some_iff.1 hp).1; omega
  have hlt := World.block_lt_of_cell? w _ hlk.1
  have hlt : Ha < w.heap.size := hlt
  have hb1 : Below w.heap.size w (w.alloc (.cells #[.string ⟨#[]⟩, .string ⟨#[]⟩, .string ⟨#[]⟩, .string ⟨#[]⟩] 46)) := (Below.refl _ _).alloc (Nat.le_refl _) _
  obtain ⟨k0, k1, k2, k3, k4, k5⟩ := RdN.at hc hp hb1 (Nat.le_refl _)
  obtain ⟨y0, y1, y2, y3⟩ := hlk
  have hk : p.key.val = .agg #[.string p.g, .string p.a, .string p.t, .string p.c] := rfl
  rw [hk]
  clear hk hc hp hr
  go_enter Try.func25, Try.ntmps25
  go_wp2
  refine bodyPost_ret (results_cell_row (P := Try.prog) rfl _ _ w.heap.size 46 #[.string p.g, .string p.a, .string p.t, .string p.c] (0, 0) _ rfl (heap_alloc_new w _) Try.underlying46 rfl (by kernel_rfl)) rfl ?_
  exact ⟨rfl, (Below.refl _ _).alloc (Nat.le_refl _) _⟩
set_option maxRecDepth 100000 in
set_option maxHeartbeats 1000000 in
theorem keyE2_any (i Ha : Nat) (g a v : ByteArray) (pv : Value) (A : List Pn) (p : Pn) (w : World) (hlk : LkIn w Ha g a v pv) (hr : RdN w pv A) (hp : A[i]? = some p) (hi : i ≤ 1000000) :
    Calls Try.prog 26 #[.int .i64 i, .pointer (some ⟨Ha, 0, none⟩)] w fun e w' => e = .returned p.key.val ∧ Below w.heap.size w w' := by
  obtain ⟨pa, pc, rfl⟩ := hr.shape
  obtain ⟨b, rfl, _, hl1, hl2, hc⟩ := hr.elem hp
  have hil : (i : Int) < A.length := by have := (List.getElem?_eq_some_iff.1 hp).1; omega
  have hlt := World.block_lt_of_cell? w _ hlk.1
  have hlt : Ha < w.heap.size := hlt
  have hb1 : Below w.heap.size w (w.alloc (.cells #[.string ⟨#[]⟩, .string ⟨#[]⟩, .string ⟨#[]⟩, .string ⟨#[]⟩] 46)) := (Below.refl _ _).alloc (Nat.le_refl _) _
  obtain ⟨k0, k1, k2, k3, k4, k5⟩ := RdN.at hc hp hb1 (Nat.le_refl _)
  obtain ⟨y0, y1, y2, y3⟩ := hlk
  have hk : p.key.val = .agg #[.string p.g, .string p.a, .string p.t, .string p.c] := rfl
  rw [hk]
  clear hk hc hp hr
  go_enter Try.func26, Try.ntmps26
  go_wp2
  refine bodyPost_ret (results_cell_row (P := Try.prog) rfl _ _ w.heap.size 46 #[.string p.g, .string p.a, .string p.t, .string p.c] (0, 0) _ rfl (heap_alloc_new w _) Try.underlying46 rfl (by kernel_rfl)) rfl ?_
  exact ⟨rfl, (Below.refl _ _).alloc (Nat.le_refl _) _⟩
set_option maxRecDepth 100000 in
set_option maxHeartbeats 1000000 in
theorem keyA1_any (i Ha : Nat) (g a v : ByteArray) (pv : Value) (A : List Pn) (p : Pn) (w : World) (hlk : LkIn w Ha g a v pv) (hr : RdN w pv A) (hp : A[i]? = some p) (hi : i ≤ 1000000) :
    Calls Try.prog 33 #[.int .i64 i, .pointer (some ⟨Ha, 0, none⟩)] w fun e w' => e = .returned p.key.val ∧ Below w.heap.size w w' := by
  obtain ⟨pa, pc, rfl⟩ := hr.shape
  obtain ⟨b, rfl, _, hl1, hl2, hc⟩ := hr.elem hp
  have hil : (i : Int) < A.length := by have := (List.getElem?_eq_some_iff.1 hp).1; omega
  have hlt := World.block_lt_of_cell? w _ hlk.1
  have hlt : Ha < w.heap.size := hlt
  have hb1 : Below w.heap.size w (w.alloc (.cells #[.string ⟨#[]⟩, .string ⟨#[]⟩, .string ⟨#[]⟩, .string ⟨#[]⟩] 46)) := (Below.refl _ _).alloc (Nat.le_refl _) _
  obtain ⟨k0, k1, k2, k3, k4, k5⟩ := RdN.at hc hp hb1 (Nat.le_refl _)
  obtain ⟨y0, y1, y2, y3⟩ := hlk
  have hk : p.key.val = .agg #[.string p.g, .string p.a, .string p.t, .string p.c] := rfl
  rw [hk]
  clear hk hc hp hr
  go_enter Try.func33, Try.ntmps33
  go_wp2
  refine bodyPost_ret (results_cell_row (P := Try.prog) rfl _ _ w.heap.size 46 #[.string p.g, .string p.a, .string p.t, .string p.c] (0, 0) _ rfl (heap_alloc_new w _) Try.underlying46 rfl (by kernel_rfl)) rfl ?_
  exact ⟨rfl, (Below.refl _ _).alloc (Nat.le_refl _) _⟩
set_option maxRecDepth 100000 in
set_option maxHeartbeats 1000000 in
theorem keyA2_any (i HE : Nat) (vE : Value) (l : List Ed) (e : Ed) (w : World) (hce : w.cell? ⟨HE, 0, none⟩ = some vE) (hr : RdE w vE l) (hp : l[i]? = some e) (hi : i ≤ 1000000) :
    Calls Try.prog 34 #[.int .i64 i, .pointer (some ⟨HE, 0, none⟩)] w fun r w' => r = .returned e.key.val ∧ Below w.heap.size w w' := by
  obtain ⟨pa, pc, rfl⟩ := hr.shape
  obtain ⟨b, rfl, _, hl1, hl2, hc⟩ := hr.elem hp
  have hil : (i : Int) < l.length := by have := (List.getElem?_eq_some_iff.1 hp).1; omega
  have hlt : HE < w.heap.size := World.block_lt_of_cell? w _ hce
  have hb1 : Below w.heap.size w (w.alloc (.cells #[.string ⟨#[]⟩, .string ⟨#[]⟩, .string ⟨#[]⟩, .string ⟨#[]⟩] 46)) := (Below.refl _ _).alloc (Nat.le_refl _) _
  have hq := (RdE.atR hc hp hb1 (Nat.le_refl _)).keyR
  have k0 : (w.alloc (.cells #[.string ⟨#[]⟩, .string ⟨#[]⟩, .string ⟨#[]⟩, .string ⟨#[]⟩] 46)).cell? (b.add (i * 18)) = some (.string e.key.g) := hq 0 _ rfl
  have k1 : (w.alloc (.cells #[.string ⟨#[]⟩, .string ⟨#[]⟩, .string ⟨#[]⟩, .string ⟨#[]⟩] 46)).cell? ⟨(b.add (i * 18)).block, (b.add (i * 18)).off + 1, none⟩ = some (.string e.key.a) := hq 1 _ rfl
  have k2 : (w.alloc (.cells #[.string ⟨#[]⟩, .string ⟨#[]⟩, .string ⟨#[]⟩, .string ⟨#[]⟩] 46)).cell? ⟨(b.add (i * 18)).block, (b.add (i * 18)).off + 2, none⟩ = some (.string e.key.t) := hq 2 _ rfl
  have k3 : (w.alloc (.cells #[.string ⟨#[]⟩, .string ⟨#[]⟩, .string ⟨#[]⟩, .string ⟨#[]⟩] 46)).cell? ⟨(b.add (i * 18)).block, (b.add (i * 18)).off + 3, none⟩ = some (.string e.key.c) := hq 3 _ rfl
  have hk : e.key.val = .agg #[.string e.key.g, .string e.key.a, .string e.key.t, .string e.key.c] := rfl
  rw [hk]
  clear hk hc hp hr hq
  go_enter Try.func34, Try.ntmps34
  go_wp2
  refine bodyPost_ret (results_cell_row (P := Try.prog) rfl _ _ w.heap.size 46 #[.string e.key.g, .string e.key.a, .string e.key.t, .string e.key.c] (0, 0) _ rfl (heap_alloc_new w _) Try.underlying46 rfl (by kernel_rfl)) rfl ?_
  exact ⟨rfl, (Below.refl _ _).alloc (Nat.le_refl _) _⟩
set_option maxRecDepth 100000 in
set_option maxHeartbeats 1000000 in
theorem keyJ1_any (i HE : Nat) (vE : Value) (l : List Ed) (e : Ed) (w : World) (hce : w.cell? ⟨HE, 0, none⟩ = some vE) (hr : RdE w vE l) (hp : l[i]? = some e) (hi : i ≤ 1000000) :
    Calls Try.prog 39 #[.int .i64 i, .pointer (some ⟨HE, 0, none⟩)] w fun r w' => r = .returned e.key.val ∧ Below w.heap.size w w' := by
  obtain ⟨pa, pc, rfl⟩ := hr.shape
  obtain ⟨b, rfl, _, hl1, hl2, hc⟩ := hr.elem hp
  have hil : (i : Int) < l.length := by have := (List.getElem?_eq_some_iff.1 hp).1; omega
  have hlt : HE < w.heap.size := World.block_lt_of_cell? w _ hce
  have hb1 : Below w.heap.size w (w.alloc (.cells #[.string ⟨#[]⟩, .string ⟨#[]⟩, .string ⟨#[]⟩, .string ⟨#[]⟩] 46)) := (Below.refl _ _).alloc (Nat.le_refl _) _
  have hq := (RdE.atR hc hp hb1 (Nat.le_refl _)).keyR
  have k0 : (w.alloc (.cells #[.string ⟨#[]⟩, .string ⟨#[]⟩, .string ⟨#[]⟩, .string ⟨#[]⟩] 46)).cell? (b.add (i * 18)) = some (.string e.key.g) := hq 0 _ rfl
  have k1 : (w.alloc (.cells #[.string ⟨#[]⟩, .string ⟨#[]⟩, .string ⟨#[]⟩, .string ⟨#[]⟩] 46)).cell? ⟨(b.add (i * 18)).block, (b.add (i * 18)).off + 1, none⟩ = some (.string e.key.a) := hq 1 _ rfl
  have k2 : (w.alloc (.cells #[.string ⟨#[]⟩, .string ⟨#[]⟩, .string ⟨#[]⟩, .string ⟨#[]⟩] 46)).cell? ⟨(b.add (i * 18)).block, (b.add (i * 18)).off + 2, none⟩ = some (.string e.key.t) := hq 2 _ rfl
  have k3 : (w.alloc (.cells #[.string ⟨#[]⟩, .string ⟨#[]⟩, .string ⟨#[]⟩, .string ⟨#[]⟩] 46)).cell? ⟨(b.add (i * 18)).block, (b.add (i * 18)).off + 3, none⟩ = some (.string e.key.c) := hq 3 _ rfl
  have hk : e.key.val = .agg #[.string e.key.g, .string e.key.a, .string e.key.t, .string e.key.c] := rfl
  rw [hk]
  clear hk hc hp hr hq
  go_enter Try.func39, Try.ntmps39
  go_wp2
  refine bodyPost_ret (results_cell_row (P := Try.prog) rfl _ _ w.heap.size 46 #[.string e.key.g, .string e.key.a, .string e.key.t, .string e.key.c] (0, 0) _ rfl (heap_alloc_new w _) Try.underlying46 rfl (by kernel_rfl)) rfl ?_
  exact ⟨rfl, (Below.refl _ _).alloc (Nat.le_refl _) _⟩
set_option maxRecDepth 100000 in
set_option maxHeartbeats 1000000 in
theorem keyJ2_any (i HE : Nat) (vE : Value) (l : List Ed) (e : Ed) (w : World) (hce : w.cell? ⟨HE, 0, none⟩ = some vE) (hr : RdE w vE l) (hp : l[i]? = some e) (hi : i ≤ 1000000) :
    Calls Try.prog 40 #[.int .i64 i, .pointer (some ⟨HE, 0, none⟩)] w fun r w' => r = .returned e.key.val ∧ Below w.heap.size w w' := by
  obtain ⟨pa, pc, rfl⟩ := hr.shape
  obtain ⟨b, rfl, _, hl1, hl2, hc⟩ := hr.elem hp
  have hil : (i : Int) < l.length := by have := (List.getElem?_eq_some_iff.1 hp).1; omega
  have hlt : HE < w.heap.size := World.block_lt_of_cell? w _ hce
  have hb1 : Below w.heap.size w (w.alloc (.cells #[.string ⟨#[]⟩, .string ⟨#[]⟩, .string ⟨#[]⟩, .string ⟨#[]⟩] 46)) := (Below.refl _ _).alloc (Nat.le_refl _) _
  have hq := (RdE.atR hc hp hb1 (Nat.le_refl _)).keyR
  have k0 : (w.alloc (.cells #[.string ⟨#[]⟩, .string ⟨#[]⟩, .string ⟨#[]⟩, .string ⟨#[]⟩] 46)).cell? (b.add (i * 18)) = some (.string e.key.g) := hq 0 _ rfl
  have k1 : (w.alloc (.cells #[.string ⟨#[]⟩, .string ⟨#[]⟩, .string ⟨#[]⟩, .string ⟨#[]⟩] 46)).cell? ⟨(b.add (i * 18)).block, (b.add (i * 18)).off + 1, none⟩ = some (.string e.key.a) := hq 1 _ rfl
  have k2 : (w.alloc (.cells #[.string ⟨#[]⟩, .string ⟨#[]⟩, .string ⟨#[]⟩, .string ⟨#[]⟩] 46)).cell? ⟨(b.add (i * 18)).block, (b.add (i * 18)).off + 2, none⟩ = some (.string e.key.t) := hq 2 _ rfl
  have k3 : (w.alloc (.cells #[.string ⟨#[]⟩, .string ⟨#[]⟩, .string ⟨#[]⟩, .string ⟨#[]⟩] 46)).cell? ⟨(b.add (i * 18)).block, (b.add (i * 18)).off + 3, none⟩ = some (.string e.key.c) := hq 3 _ rfl
  have hk : e.key.val = .agg #[.string e.key.g, .string e.key.a, .string e.key.t, .string e.key.c] := rfl
  rw [hk]
  clear hk hc hp hr hq
  go_enter Try.func40, Try.ntmps40
  go_wp2
  refine bodyPost_ret (results_cell_row (P := Try.prog) rfl _ _ w.heap.size 46 #[.string e.key.g, .string e.key.a, .string e.key.t, .string e.key.c] (0, 0) _ rfl (heap_alloc_new w _) Try.underlying46 rfl (by kernel_rfl)) rfl ?_
  exact ⟨rfl, (Below.refl _ _).alloc (Nat.le_refl _) _⟩
end Go.Proofs.Ytoibanffaebllaa
