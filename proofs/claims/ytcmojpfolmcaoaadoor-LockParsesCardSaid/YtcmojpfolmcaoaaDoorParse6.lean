/-
  Layer 6: the whole contracts of coord.ParseGav and coord.ParseKey. Own work.
-/
import Derived.Test.YtcmojpfolmcaoaaDoorPrint6
import Derived.Test.YtcmojpfolmcaoaaDoorPcs6
import Derived.Deep.RegionHeld3
namespace Go.Proofs.YtcmojpfolmcaoaaDoor
set_option linter.unusedVariables false
set_option linter.unusedSimpArgs false
open Go.RowKit

set_option maxHeartbeats 1000000 in
theorem ParseGav_few (s : ByteArray) (hs : s.size ≤ 1000000) (n : Nat) (hn0 : n ≠ 2) (hn1 : n ≤ 1000000) (l : List ByteArray) (hn : Lib.countB s ⟨#[58]⟩ = n) (hl : Lib.splitB ⟨#[58]⟩ 0 n s = l)
    (w : World) (hm : MaxOk w) :
    Calls Tryd.prog 62 #[.string s] w fun e w' => e = .returned (.tuple #[gavV ⟨#[]⟩ ⟨#[]⟩ ⟨#[]⟩, .int .i64 1]) ∧ Below w.heap.size w w' := by
  have h1 := Split_any s hs n l hn hl _ (hm.al (Obj.cells #[Value.string { data := #[] }, Value.string { data := #[] }, Value.string { data := #[] }] 23))
  have H1 := Lib.hid h1
  clear h1 hm hl hn
  go_enter Tryd.func62, Tryd.ntmps62
  go_wp2_with fail
  refine H1.out.mono ?_
  rintro e w' ⟨rfl, rfl⟩
  go_wp2
  all_goals first
    | (exfalso; omega)
    | (refine bodyPost_ret (v := .tuple #[gavV ⟨#[]⟩ ⟨#[]⟩ ⟨#[]⟩, .int .i64 1]) (by simp [results, Tryd.results62, go_sem, gavV]) rfl ⟨rfl, ?_⟩
       repeat (first | exact Below.refl _ _ | refine below_al' _ ?_ (Nat.le_refl _) | (refine Below.setCell ?_ (by first | exact Nat.le_refl _ | (simp only; omega)) _)))

set_option maxHeartbeats 1000000 in
theorem ParseKey_few (s : ByteArray) (hs : s.size ≤ 1000000) (n : Nat) (hn0 : n < 2 ∨ 3 < n) (hn1 : n ≤ 1000000) (l : List ByteArray) (hn : Lib.countB s ⟨#[58]⟩ = n) (hl : Lib.splitB ⟨#[58]⟩ 0 n s = l)
    (w : World) (hm : MaxOk w) :
    Calls Tryd.prog 63 #[.string s] w fun e w' => e = .returned (.tuple #[keyV ⟨#[]⟩ ⟨#[]⟩ ⟨#[]⟩ ⟨#[]⟩, .int .i64 1]) ∧ Below w.heap.size w w' := by
  have h1 := Split_any s hs n l hn hl _ (hm.al (Obj.cells #[Value.string { data := #[] }, Value.string { data := #[] }, Value.string { data := #[] }, Value.string { data := #[] }] 40))
  have H1 := Lib.hid h1
  clear h1 hm hl hn
  go_enter Tryd.func63, Tryd.ntmps63
  go_wp2_with fail
  refine H1.out.mono ?_
  rintro e w' ⟨rfl, rfl⟩
  go_wp2
  all_goals first
    | (exfalso; omega)
    | (refine bodyPost_ret (v := .tuple #[keyV ⟨#[]⟩ ⟨#[]⟩ ⟨#[]⟩ ⟨#[]⟩, .int .i64 1]) (by simp [results, Tryd.results63, go_sem, keyV]) rfl ⟨rfl, ?_⟩
       repeat (first | exact Below.refl _ _ | refine below_al' _ ?_ (Nat.le_refl _) | (refine Below.setCell ?_ (by first | exact Nat.le_refl _ | (simp only; omega)) _)))

set_option maxHeartbeats 2000000 in
theorem ParseGav_3 (s g a v : ByteArray) (hs : s.size ≤ 1000000) (hg : g.size ≤ 1000000) (ha : a.size ≤ 1000000) (hv : v.size ≤ 1000000) (hn : Lib.countB s ⟨#[58]⟩ = 2) (hl : Lib.splitB ⟨#[58]⟩ 0 2 s = [g, a, v]) (hk : mayGav g a v = true)
    (w : World) (hm : MaxOk w) :
    Calls Tryd.prog 62 #[.string s] w fun e w' => e = .returned (.tuple #[gavV g a v, .int .i64 0]) ∧ Below w.heap.size w w' := by
  have h1 := Split_any s hs 2 [g, a, v] hn hl _ (hm.al (Obj.cells #[Value.string { data := #[] }, Value.string { data := #[] }, Value.string { data := #[] }] 23))
  have h2 := fun w => MayGav_any g a v hg ha hv w
  rw [hk] at h2
  unfold gavV at h2
  have H1 := Lib.hid h1
  have H2 := Lib.hid h2
  clear h1 h2 hm hl hn hk
  go_enter Tryd.func62, Tryd.ntmps62
  go_wp2_with fail
  refine H1.out.mono ?_
  rintro e w' ⟨rfl, rfl⟩
  go_wp2_with fail
  go_region_held3 (fun w' => w'.cell? ⟨w.heap.size + 1, 0, none⟩ = some (.string g) ∧ w'.cell? ⟨w.heap.size + 1, 1, none⟩ = some (.string a) ∧ w'.cell? ⟨w.heap.size + 1, 2, none⟩ = some (.string v)) (go_keep) (fail)
  rename_i hHeld
  clear hHeld
  go_wp2_with fail
  refine (H2.out _).mono ?_
  rintro e w2 ⟨rfl, hb2⟩
  have c0 := below_cell hb2 (p := ⟨w.heap.size + 1 + 1, 0, none⟩) (v := .string g) (by first | (simp [go_sem]; done) | (simp [go_sem]; omega)) (by simp [go_sem])
  have f0 := below_frozen hb2 (p := ⟨w.heap.size, 0, none⟩) (v := false) (by first | (simp [go_sem]; done) | (simp [go_sem]; omega)) (by simp [go_sem])
  have d0 := below_cell hb2 (p := ⟨w.heap.size, 0, none⟩) (v := .string ⟨#[]⟩) (by first | (simp [go_sem]; done) | (simp [go_sem]; omega)) (by simp [go_sem])
  have c1 := below_cell hb2 (p := ⟨w.heap.size + 1 + 1, 1, none⟩) (v := .string a) (by first | (simp [go_sem]; done) | (simp [go_sem]; omega)) (by simp [go_sem])
  have f1 := below_frozen hb2 (p := ⟨w.heap.size, 1, none⟩) (v := false) (by first | (simp [go_sem]; done) | (simp [go_sem]; omega)) (by simp [go_sem])
  have d1 := below_cell hb2 (p := ⟨w.heap.size, 1, none⟩) (v := .string ⟨#[]⟩) (by first | (simp [go_sem]; done) | (simp [go_sem]; omega)) (by simp [go_sem])
  have c2 := below_cell hb2 (p := ⟨w.heap.size + 1 + 1, 2, none⟩) (v := .string v) (by first | (simp [go_sem]; done) | (simp [go_sem]; omega)) (by simp [go_sem])
  have f2 := below_frozen hb2 (p := ⟨w.heap.size, 2, none⟩) (v := false) (by first | (simp [go_sem]; done) | (simp [go_sem]; omega)) (by simp [go_sem])
  have d2 := below_cell hb2 (p := ⟨w.heap.size, 2, none⟩) (v := .string ⟨#[]⟩) (by first | (simp [go_sem]; done) | (simp [go_sem]; omega)) (by simp [go_sem])
  have hz2 := hb2.size
  simp [go_sem] at hz2
  have hbw : Below w.heap.size w w2 := by
    refine Below.trans ?_ (hb2.mono (by first | (simp [go_sem]; done) | (simp [go_sem]; omega)))
    refine Below.drew ?_
    exact below_al' _ (below_al' _ (below_al' _ (Below.refl _ _) (Nat.le_refl _)) (Nat.le_refl _)) (Nat.le_refl _)
  have HBW := Lib.hid hbw
  clear hbw hb2
  go_wp2
  refine bodyPost_ret (v := .tuple #[gavV g a v, .int .i64 0]) (by simp [results, Tryd.results62, go_sem, gavV, *]) rfl ⟨rfl, ?_⟩
  exact ((HBW.out.setCell (Nat.le_refl _) _).setCell (Nat.le_refl _) _).setCell (Nat.le_refl _) _

set_option maxHeartbeats 2000000 in
theorem ParseGav_3_no (s g a v : ByteArray) (hs : s.size ≤ 1000000) (hg : g.size ≤ 1000000) (ha : a.size ≤ 1000000) (hv : v.size ≤ 1000000) (hn : Lib.countB s ⟨#[58]⟩ = 2) (hl : Lib.splitB ⟨#[58]⟩ 0 2 s = [g, a, v]) (hk : mayGav g a v = false)
    (w : World) (hm : MaxOk w) :
    Calls Tryd.prog 62 #[.string s] w fun e w' => e = .returned (.tuple #[gavV ⟨#[]⟩ ⟨#[]⟩ ⟨#[]⟩, .int .i64 1]) ∧ Below w.heap.size w w' := by
  have h1 := Split_any s hs 2 [g, a, v] hn hl _ (hm.al (Obj.cells #[Value.string { data := #[] }, Value.string { data := #[] }, Value.string { data := #[] }] 23))
  have h2 := fun w => MayGav_any g a v hg ha hv w
  rw [hk] at h2
  unfold gavV at h2
  have H1 := Lib.hid h1
  have H2 := Lib.hid h2
  clear h1 h2 hm hl hn hk
  go_enter Tryd.func62, Tryd.ntmps62
  go_wp2_with fail
  refine H1.out.mono ?_
  rintro e w' ⟨rfl, rfl⟩
  go_wp2_with fail
  go_region_held3 (fun w' => w'.cell? ⟨w.heap.size + 1, 0, none⟩ = some (.string g) ∧ w'.cell? ⟨w.heap.size + 1, 1, none⟩ = some (.string a) ∧ w'.cell? ⟨w.heap.size + 1, 2, none⟩ = some (.string v)) (go_keep) (fail)
  rename_i hHeld
  clear hHeld
  go_wp2_with fail
  refine (H2.out _).mono ?_
  rintro e w2 ⟨rfl, hb2⟩
  have c0 := below_cell hb2 (p := ⟨w.heap.size + 1 + 1, 0, none⟩) (v := .string g) (by first | (simp [go_sem]; done) | (simp [go_sem]; omega)) (by simp [go_sem])
  have f0 := below_frozen hb2 (p := ⟨w.heap.size, 0, none⟩) (v := false) (by first | (simp [go_sem]; done) | (simp [go_sem]; omega)) (by simp [go_sem])
  have d0 := below_cell hb2 (p := ⟨w.heap.size, 0, none⟩) (v := .string ⟨#[]⟩) (by first | (simp [go_sem]; done) | (simp [go_sem]; omega)) (by simp [go_sem])
  have c1 := below_cell hb2 (p := ⟨w.heap.size + 1 + 1, 1, none⟩) (v := .string a) (by first | (simp [go_sem]; done) | (simp [go_sem]; omega)) (by simp [go_sem])
  have f1 := below_frozen hb2 (p := ⟨w.heap.size, 1, none⟩) (v := false) (by first | (simp [go_sem]; done) | (simp [go_sem]; omega)) (by simp [go_sem])
  have d1 := below_cell hb2 (p := ⟨w.heap.size, 1, none⟩) (v := .string ⟨#[]⟩) (by first | (simp [go_sem]; done) | (simp [go_sem]; omega)) (by simp [go_sem])
  have c2 := below_cell hb2 (p := ⟨w.heap.size + 1 + 1, 2, none⟩) (v := .string v) (by first | (simp [go_sem]; done) | (simp [go_sem]; omega)) (by simp [go_sem])
  have f2 := below_frozen hb2 (p := ⟨w.heap.size, 2, none⟩) (v := false) (by first | (simp [go_sem]; done) | (simp [go_sem]; omega)) (by simp [go_sem])
  have d2 := below_cell hb2 (p := ⟨w.heap.size, 2, none⟩) (v := .string ⟨#[]⟩) (by first | (simp [go_sem]; done) | (simp [go_sem]; omega)) (by simp [go_sem])
  have hz2 := hb2.size
  simp [go_sem] at hz2
  have hbw : Below w.heap.size w w2 := by
    refine Below.trans ?_ (hb2.mono (by first | (simp [go_sem]; done) | (simp [go_sem]; omega)))
    refine Below.drew ?_
    exact below_al' _ (below_al' _ (below_al' _ (Below.refl _ _) (Nat.le_refl _)) (Nat.le_refl _)) (Nat.le_refl _)
  have HBW := Lib.hid hbw
  clear hbw hb2
  go_wp2
  refine bodyPost_ret (v := .tuple #[gavV ⟨#[]⟩ ⟨#[]⟩ ⟨#[]⟩, .int .i64 1]) (by simp [results, Tryd.results62, go_sem, gavV, *]) rfl ⟨rfl, ?_⟩
  exact ((HBW.out.setCell (Nat.le_refl _) _).setCell (Nat.le_refl _) _).setCell (Nat.le_refl _) _

set_option maxHeartbeats 2000000 in
theorem ParseKey_3 (s g a t : ByteArray) (hs : s.size ≤ 1000000) (hg : g.size ≤ 1000000) (ha : a.size ≤ 1000000) (ht : t.size ≤ 1000000) (hn : Lib.countB s ⟨#[58]⟩ = 2) (hl : Lib.splitB ⟨#[58]⟩ 0 2 s = [g, a, t]) (hk : mayKey g a t ⟨#[]⟩ = true) (hp : ((printKey g a t ⟨#[]⟩).toList == s.toList) = true) (hp2 : (!((printKey g a t ⟨#[]⟩).toList == s.toList)) = false)
    (w : World) (hm : MaxOk w) :
    Calls Tryd.prog 63 #[.string s] w fun e w' => e = .returned (.tuple #[keyV g a t ⟨#[]⟩, .int .i64 0]) ∧ Below w.heap.size w w' := by
  have h1 := Split_any s hs 2 [g, a, t] hn hl _ (hm.al (Obj.cells #[Value.string { data := #[] }, Value.string { data := #[] }, Value.string { data := #[] }, Value.string { data := #[] }] 40))
  have h2 := fun w => MayKey_any g a t ⟨#[]⟩ hg ha ht (by decide) w
  rw [hk] at h2
  have h3 := fun w => PrintKey_any g a t ⟨#[]⟩ hg ha ht (by decide) w
  generalize hpk : printKey g a t ⟨#[]⟩ = pk at h3 hp hp2
  unfold keyV at h2 h3
  have H1 := Lib.hid h1
  have H2 := Lib.hid h2
  have H3 := Lib.hid h3
  clear h1 h2 h3 hm hl hn hk hpk
  go_enter Tryd.func63, Tryd.ntmps63
  go_wp2_with fail
  refine H1.out.mono ?_
  rintro e w' ⟨rfl, rfl⟩
  go_wp2_with fail
  go_region_held3 (fun w' => w'.cell? ⟨w.heap.size + 1, 0, none⟩ = some (.string g) ∧ w'.cell? ⟨w.heap.size + 1, 1, none⟩ = some (.string a) ∧ w'.cell? ⟨w.heap.size + 1, 2, none⟩ = some (.string t)) (go_keep) (fail)
  rename_i hHeld
  clear hHeld
  go_wp2_with fail
  refine (H2.out _).mono ?_
  rintro e w2 ⟨rfl, hb2⟩
  have c0 := below_cell hb2 (p := ⟨w.heap.size + 1 + 1, 0, none⟩) (v := .string g) (by first | (simp [go_sem]; done) | (simp [go_sem]; omega)) (by simp [go_sem])
  have f0 := below_frozen hb2 (p := ⟨w.heap.size, 0, none⟩) (v := false) (by first | (simp [go_sem]; done) | (simp [go_sem]; omega)) (by simp [go_sem])
  have d0 := below_cell hb2 (p := ⟨w.heap.size, 0, none⟩) (v := .string ⟨#[]⟩) (by first | (simp [go_sem]; done) | (simp [go_sem]; omega)) (by simp [go_sem])
  have c1 := below_cell hb2 (p := ⟨w.heap.size + 1 + 1, 1, none⟩) (v := .string a) (by first | (simp [go_sem]; done) | (simp [go_sem]; omega)) (by simp [go_sem])
  have f1 := below_frozen hb2 (p := ⟨w.heap.size, 1, none⟩) (v := false) (by first | (simp [go_sem]; done) | (simp [go_sem]; omega)) (by simp [go_sem])
  have d1 := below_cell hb2 (p := ⟨w.heap.size, 1, none⟩) (v := .string ⟨#[]⟩) (by first | (simp [go_sem]; done) | (simp [go_sem]; omega)) (by simp [go_sem])
  have c2 := below_cell hb2 (p := ⟨w.heap.size + 1 + 1, 2, none⟩) (v := .string t) (by first | (simp [go_sem]; done) | (simp [go_sem]; omega)) (by simp [go_sem])
  have f2 := below_frozen hb2 (p := ⟨w.heap.size, 2, none⟩) (v := false) (by first | (simp [go_sem]; done) | (simp [go_sem]; omega)) (by simp [go_sem])
  have d2 := below_cell hb2 (p := ⟨w.heap.size, 2, none⟩) (v := .string ⟨#[]⟩) (by first | (simp [go_sem]; done) | (simp [go_sem]; omega)) (by simp [go_sem])
  have c3 := below_cell hb2 (p := ⟨w.heap.size + 1 + 1, 3, none⟩) (v := .string ⟨#[]⟩) (by first | (simp [go_sem]; done) | (simp [go_sem]; omega)) (by simp [go_sem])
  have f3 := below_frozen hb2 (p := ⟨w.heap.size, 3, none⟩) (v := false) (by first | (simp [go_sem]; done) | (simp [go_sem]; omega)) (by simp [go_sem])
  have d3 := below_cell hb2 (p := ⟨w.heap.size, 3, none⟩) (v := .string ⟨#[]⟩) (by first | (simp [go_sem]; done) | (simp [go_sem]; omega)) (by simp [go_sem])
  have hz2 := hb2.size
  simp [go_sem] at hz2
  have hbw : Below w.heap.size w w2 := by
    refine Below.trans ?_ (hb2.mono (by first | (simp [go_sem]; done) | (simp [go_sem]; omega)))
    refine Below.drew ?_
    exact below_al' _ (below_al' _ (below_al' _ (Below.refl _ _) (Nat.le_refl _)) (Nat.le_refl _)) (Nat.le_refl _)
  have HBW := Lib.hid hbw
  clear hbw hb2
  go_wp2_with fail
  refine (H3.out _).mono ?_
  rintro e w3 ⟨rfl, hb3⟩
  have c0' := below_cell hb3 (p := ⟨w.heap.size + 1 + 1, 0, none⟩) (v := .string g) (by simp only; omega) c0
  have f0' := below_frozen hb3 (p := ⟨w.heap.size, 0, none⟩) (v := false) (by simp only; omega) f0
  have d0' := below_cell hb3 (p := ⟨w.heap.size, 0, none⟩) (v := .string ⟨#[]⟩) (by simp only; omega) d0
  have c1' := below_cell hb3 (p := ⟨w.heap.size + 1 + 1, 1, none⟩) (v := .string a) (by simp only; omega) c1
  have f1' := below_frozen hb3 (p := ⟨w.heap.size, 1, none⟩) (v := false) (by simp only; omega) f1
  have d1' := below_cell hb3 (p := ⟨w.heap.size, 1, none⟩) (v := .string ⟨#[]⟩) (by simp only; omega) d1
  have c2' := below_cell hb3 (p := ⟨w.heap.size + 1 + 1, 2, none⟩) (v := .string t) (by simp only; omega) c2
  have f2' := below_frozen hb3 (p := ⟨w.heap.size, 2, none⟩) (v := false) (by simp only; omega) f2
  have d2' := below_cell hb3 (p := ⟨w.heap.size, 2, none⟩) (v := .string ⟨#[]⟩) (by simp only; omega) d2
  have c3' := below_cell hb3 (p := ⟨w.heap.size + 1 + 1, 3, none⟩) (v := .string ⟨#[]⟩) (by simp only; omega) c3
  have f3' := below_frozen hb3 (p := ⟨w.heap.size, 3, none⟩) (v := false) (by simp only; omega) f3
  have d3' := below_cell hb3 (p := ⟨w.heap.size, 3, none⟩) (v := .string ⟨#[]⟩) (by simp only; omega) d3
  have hz3 := hb3.size
  have hbw3 := HBW.out.trans (hb3.mono (by omega))
  have HBW3 := Lib.hid hbw3
  clear hbw3 hb3 c0 f0 d0 c1 f1 d1 c2 f2 d2 c3 f3 d3
  go_wp2
  refine bodyPost_ret (v := .tuple #[keyV g a t ⟨#[]⟩, .int .i64 0]) (by simp [results, Tryd.results63, go_sem, keyV, *]) rfl ⟨rfl, ?_⟩
  exact (((HBW3.out.setCell (Nat.le_refl _) _).setCell (Nat.le_refl _) _).setCell (Nat.le_refl _) _).setCell (Nat.le_refl _) _

set_option maxHeartbeats 2000000 in
theorem ParseKey_3_no (s g a t : ByteArray) (hs : s.size ≤ 1000000) (hg : g.size ≤ 1000000) (ha : a.size ≤ 1000000) (ht : t.size ≤ 1000000) (hn : Lib.countB s ⟨#[58]⟩ = 2) (hl : Lib.splitB ⟨#[58]⟩ 0 2 s = [g, a, t]) (hk : mayKey g a t ⟨#[]⟩ = false)
    (w : World) (hm : MaxOk w) :
    Calls Tryd.prog 63 #[.string s] w fun e w' => e = .returned (.tuple #[keyV ⟨#[]⟩ ⟨#[]⟩ ⟨#[]⟩ ⟨#[]⟩, .int .i64 1]) ∧ Below w.heap.size w w' := by
  have h1 := Split_any s hs 2 [g, a, t] hn hl _ (hm.al (Obj.cells #[Value.string { data := #[] }, Value.string { data := #[] }, Value.string { data := #[] }, Value.string { data := #[] }] 40))
  have h2 := fun w => MayKey_any g a t ⟨#[]⟩ hg ha ht (by decide) w
  rw [hk] at h2
  unfold keyV at h2
  have H1 := Lib.hid h1
  have H2 := Lib.hid h2
  clear h1 h2 hm hl hn hk
  go_enter Tryd.func63, Tryd.ntmps63
  go_wp2_with fail
  refine H1.out.mono ?_
  rintro e w' ⟨rfl, rfl⟩
  go_wp2_with fail
  go_region_held3 (fun w' => w'.cell? ⟨w.heap.size + 1, 0, none⟩ = some (.string g) ∧ w'.cell? ⟨w.heap.size + 1, 1, none⟩ = some (.string a) ∧ w'.cell? ⟨w.heap.size + 1, 2, none⟩ = some (.string t)) (go_keep) (fail)
  rename_i hHeld
  clear hHeld
  go_wp2_with fail
  refine (H2.out _).mono ?_
  rintro e w2 ⟨rfl, hb2⟩
  have c0 := below_cell hb2 (p := ⟨w.heap.size + 1 + 1, 0, none⟩) (v := .string g) (by first | (simp [go_sem]; done) | (simp [go_sem]; omega)) (by simp [go_sem])
  have f0 := below_frozen hb2 (p := ⟨w.heap.size, 0, none⟩) (v := false) (by first | (simp [go_sem]; done) | (simp [go_sem]; omega)) (by simp [go_sem])
  have d0 := below_cell hb2 (p := ⟨w.heap.size, 0, none⟩) (v := .string ⟨#[]⟩) (by first | (simp [go_sem]; done) | (simp [go_sem]; omega)) (by simp [go_sem])
  have c1 := below_cell hb2 (p := ⟨w.heap.size + 1 + 1, 1, none⟩) (v := .string a) (by first | (simp [go_sem]; done) | (simp [go_sem]; omega)) (by simp [go_sem])
  have f1 := below_frozen hb2 (p := ⟨w.heap.size, 1, none⟩) (v := false) (by first | (simp [go_sem]; done) | (simp [go_sem]; omega)) (by simp [go_sem])
  have d1 := below_cell hb2 (p := ⟨w.heap.size, 1, none⟩) (v := .string ⟨#[]⟩) (by first | (simp [go_sem]; done) | (simp [go_sem]; omega)) (by simp [go_sem])
  have c2 := below_cell hb2 (p := ⟨w.heap.size + 1 + 1, 2, none⟩) (v := .string t) (by first | (simp [go_sem]; done) | (simp [go_sem]; omega)) (by simp [go_sem])
  have f2 := below_frozen hb2 (p := ⟨w.heap.size, 2, none⟩) (v := false) (by first | (simp [go_sem]; done) | (simp [go_sem]; omega)) (by simp [go_sem])
  have d2 := below_cell hb2 (p := ⟨w.heap.size, 2, none⟩) (v := .string ⟨#[]⟩) (by first | (simp [go_sem]; done) | (simp [go_sem]; omega)) (by simp [go_sem])
  have c3 := below_cell hb2 (p := ⟨w.heap.size + 1 + 1, 3, none⟩) (v := .string ⟨#[]⟩) (by first | (simp [go_sem]; done) | (simp [go_sem]; omega)) (by simp [go_sem])
  have f3 := below_frozen hb2 (p := ⟨w.heap.size, 3, none⟩) (v := false) (by first | (simp [go_sem]; done) | (simp [go_sem]; omega)) (by simp [go_sem])
  have d3 := below_cell hb2 (p := ⟨w.heap.size, 3, none⟩) (v := .string ⟨#[]⟩) (by first | (simp [go_sem]; done) | (simp [go_sem]; omega)) (by simp [go_sem])
  have hz2 := hb2.size
  simp [go_sem] at hz2
  have hbw : Below w.heap.size w w2 := by
    refine Below.trans ?_ (hb2.mono (by first | (simp [go_sem]; done) | (simp [go_sem]; omega)))
    refine Below.drew ?_
    exact below_al' _ (below_al' _ (below_al' _ (Below.refl _ _) (Nat.le_refl _)) (Nat.le_refl _)) (Nat.le_refl _)
  have HBW := Lib.hid hbw
  clear hbw hb2
  go_wp2
  refine bodyPost_ret (v := .tuple #[keyV ⟨#[]⟩ ⟨#[]⟩ ⟨#[]⟩ ⟨#[]⟩, .int .i64 1]) (by simp [results, Tryd.results63, go_sem, keyV, *]) rfl ⟨rfl, ?_⟩
  exact (((HBW.out.setCell (Nat.le_refl _) _).setCell (Nat.le_refl _) _).setCell (Nat.le_refl _) _).setCell (Nat.le_refl _) _

set_option maxHeartbeats 2000000 in
theorem ParseKey_4_yes (s g a t c : ByteArray) (hs : s.size ≤ 1000000) (hg : g.size ≤ 1000000) (ha : a.size ≤ 1000000) (ht : t.size ≤ 1000000) (hc : c.size ≤ 1000000) (hn : Lib.countB s ⟨#[58]⟩ = 3) (hl : Lib.splitB ⟨#[58]⟩ 0 3 s = [g, a, t, c]) (hk : mayKey g a t c = true) (hp : ((printKey g a t c).toList == s.toList) = true) (hp2 : (!((printKey g a t c).toList == s.toList)) = false)
    (w : World) (hm : MaxOk w) :
    Calls Tryd.prog 63 #[.string s] w fun e w' => e = .returned (.tuple #[keyV g a t c, .int .i64 0]) ∧ Below w.heap.size w w' := by
  have h1 := Split_any s hs 3 [g, a, t, c] hn hl _ (hm.al (Obj.cells #[Value.string { data := #[] }, Value.string { data := #[] }, Value.string { data := #[] }, Value.string { data := #[] }] 40))
  have h2 := fun w => MayKey_any g a t c hg ha ht hc w
  rw [hk] at h2
  have h3 := fun w => PrintKey_any g a t c hg ha ht hc w
  generalize hpk : printKey g a t c = pk at h3 hp hp2
  unfold keyV at h2 h3
  have H1 := Lib.hid h1
  have H2 := Lib.hid h2
  have H3 := Lib.hid h3
  clear h1 h2 h3 hm hl hn hk hpk
  go_enter Tryd.func63, Tryd.ntmps63
  go_wp2_with fail
  refine H1.out.mono ?_
  rintro e w' ⟨rfl, rfl⟩
  go_wp2_with fail
  go_region_held3 (fun w' => w'.cell? ⟨w.heap.size + 1, 0, none⟩ = some (.string g) ∧ w'.cell? ⟨w.heap.size + 1, 1, none⟩ = some (.string a) ∧ w'.cell? ⟨w.heap.size + 1, 2, none⟩ = some (.string t)) (go_keep) (fail)
  rename_i hHeld
  clear hHeld
  go_wp2_with fail
  refine (H2.out _).mono ?_
  rintro e w2 ⟨rfl, hb2⟩
  have c0 := below_cell hb2 (p := ⟨w.heap.size + 1 + 1, 0, none⟩) (v := .string g) (by first | (simp [go_sem]; done) | (simp [go_sem]; omega)) (by simp [go_sem])
  have f0 := below_frozen hb2 (p := ⟨w.heap.size, 0, none⟩) (v := false) (by first | (simp [go_sem]; done) | (simp [go_sem]; omega)) (by simp [go_sem])
  have d0 := below_cell hb2 (p := ⟨w.heap.size, 0, none⟩) (v := .string ⟨#[]⟩) (by first | (simp [go_sem]; done) | (simp [go_sem]; omega)) (by simp [go_sem])
  have c1 := below_cell hb2 (p := ⟨w.heap.size + 1 + 1, 1, none⟩) (v := .string a) (by first | (simp [go_sem]; done) | (simp [go_sem]; omega)) (by simp [go_sem])
  have f1 := below_frozen hb2 (p := ⟨w.heap.size, 1, none⟩) (v := false) (by first | (simp [go_sem]; done) | (simp [go_sem]; omega)) (by simp [go_sem])
  have d1 := below_cell hb2 (p := ⟨w.heap.size, 1, none⟩) (v := .string ⟨#[]⟩) (by first | (simp [go_sem]; done) | (simp [go_sem]; omega)) (by simp [go_sem])
  have c2 := below_cell hb2 (p := ⟨w.heap.size + 1 + 1, 2, none⟩) (v := .string t) (by first | (simp [go_sem]; done) | (simp [go_sem]; omega)) (by simp [go_sem])
  have f2 := below_frozen hb2 (p := ⟨w.heap.size, 2, none⟩) (v := false) (by first | (simp [go_sem]; done) | (simp [go_sem]; omega)) (by simp [go_sem])
  have d2 := below_cell hb2 (p := ⟨w.heap.size, 2, none⟩) (v := .string ⟨#[]⟩) (by first | (simp [go_sem]; done) | (simp [go_sem]; omega)) (by simp [go_sem])
  have c3 := below_cell hb2 (p := ⟨w.heap.size + 1 + 1, 3, none⟩) (v := .string c) (by first | (simp [go_sem]; done) | (simp [go_sem]; omega)) (by simp [go_sem])
  have f3 := below_frozen hb2 (p := ⟨w.heap.size, 3, none⟩) (v := false) (by first | (simp [go_sem]; done) | (simp [go_sem]; omega)) (by simp [go_sem])
  have d3 := below_cell hb2 (p := ⟨w.heap.size, 3, none⟩) (v := .string ⟨#[]⟩) (by first | (simp [go_sem]; done) | (simp [go_sem]; omega)) (by simp [go_sem])
  have hz2 := hb2.size
  simp [go_sem] at hz2
  have hbw : Below w.heap.size w w2 := by
    refine Below.trans ?_ (hb2.mono (by first | (simp [go_sem]; done) | (simp [go_sem]; omega)))
    refine Below.drew ?_
    exact below_al' _ (below_al' _ (below_al' _ (Below.refl _ _) (Nat.le_refl _)) (Nat.le_refl _)) (Nat.le_refl _)
  have HBW := Lib.hid hbw
  clear hbw hb2
  go_wp2_with fail
  refine (H3.out _).mono ?_
  rintro e w3 ⟨rfl, hb3⟩
  have c0' := below_cell hb3 (p := ⟨w.heap.size + 1 + 1, 0, none⟩) (v := .string g) (by simp only; omega) c0
  have f0' := below_frozen hb3 (p := ⟨w.heap.size, 0, none⟩) (v := false) (by simp only; omega) f0
  have d0' := below_cell hb3 (p := ⟨w.heap.size, 0, none⟩) (v := .string ⟨#[]⟩) (by simp only; omega) d0
  have c1' := below_cell hb3 (p := ⟨w.heap.size + 1 + 1, 1, none⟩) (v := .string a) (by simp only; omega) c1
  have f1' := below_frozen hb3 (p := ⟨w.heap.size, 1, none⟩) (v := false) (by simp only; omega) f1
  have d1' := below_cell hb3 (p := ⟨w.heap.size, 1, none⟩) (v := .string ⟨#[]⟩) (by simp only; omega) d1
  have c2' := below_cell hb3 (p := ⟨w.heap.size + 1 + 1, 2, none⟩) (v := .string t) (by simp only; omega) c2
  have f2' := below_frozen hb3 (p := ⟨w.heap.size, 2, none⟩) (v := false) (by simp only; omega) f2
  have d2' := below_cell hb3 (p := ⟨w.heap.size, 2, none⟩) (v := .string ⟨#[]⟩) (by simp only; omega) d2
  have c3' := below_cell hb3 (p := ⟨w.heap.size + 1 + 1, 3, none⟩) (v := .string c) (by simp only; omega) c3
  have f3' := below_frozen hb3 (p := ⟨w.heap.size, 3, none⟩) (v := false) (by simp only; omega) f3
  have d3' := below_cell hb3 (p := ⟨w.heap.size, 3, none⟩) (v := .string ⟨#[]⟩) (by simp only; omega) d3
  have hz3 := hb3.size
  have hbw3 := HBW.out.trans (hb3.mono (by omega))
  have HBW3 := Lib.hid hbw3
  clear hbw3 hb3 c0 f0 d0 c1 f1 d1 c2 f2 d2 c3 f3 d3
  go_wp2
  refine bodyPost_ret (v := .tuple #[keyV g a t c, .int .i64 0]) (by simp [results, Tryd.results63, go_sem, keyV, *]) rfl ⟨rfl, ?_⟩
  exact (((HBW3.out.setCell (Nat.le_refl _) _).setCell (Nat.le_refl _) _).setCell (Nat.le_refl _) _).setCell (Nat.le_refl _) _

set_option maxHeartbeats 2000000 in
theorem ParseKey_4_no (s g a t c : ByteArray) (hs : s.size ≤ 1000000) (hg : g.size ≤ 1000000) (ha : a.size ≤ 1000000) (ht : t.size ≤ 1000000) (hc : c.size ≤ 1000000) (hn : Lib.countB s ⟨#[58]⟩ = 3) (hl : Lib.splitB ⟨#[58]⟩ 0 3 s = [g, a, t, c]) (hk : mayKey g a t c = false)
    (w : World) (hm : MaxOk w) :
    Calls Tryd.prog 63 #[.string s] w fun e w' => e = .returned (.tuple #[keyV ⟨#[]⟩ ⟨#[]⟩ ⟨#[]⟩ ⟨#[]⟩, .int .i64 1]) ∧ Below w.heap.size w w' := by
  have h1 := Split_any s hs 3 [g, a, t, c] hn hl _ (hm.al (Obj.cells #[Value.string { data := #[] }, Value.string { data := #[] }, Value.string { data := #[] }, Value.string { data := #[] }] 40))
  have h2 := fun w => MayKey_any g a t c hg ha ht hc w
  rw [hk] at h2
  unfold keyV at h2
  have H1 := Lib.hid h1
  have H2 := Lib.hid h2
  clear h1 h2 hm hl hn hk
  go_enter Tryd.func63, Tryd.ntmps63
  go_wp2_with fail
  refine H1.out.mono ?_
  rintro e w' ⟨rfl, rfl⟩
  go_wp2_with fail
  go_region_held3 (fun w' => w'.cell? ⟨w.heap.size + 1, 0, none⟩ = some (.string g) ∧ w'.cell? ⟨w.heap.size + 1, 1, none⟩ = some (.string a) ∧ w'.cell? ⟨w.heap.size + 1, 2, none⟩ = some (.string t)) (go_keep) (fail)
  rename_i hHeld
  clear hHeld
  go_wp2_with fail
  refine (H2.out _).mono ?_
  rintro e w2 ⟨rfl, hb2⟩
  have c0 := below_cell hb2 (p := ⟨w.heap.size + 1 + 1, 0, none⟩) (v := .string g) (by first | (simp [go_sem]; done) | (simp [go_sem]; omega)) (by simp [go_sem])
  have f0 := below_frozen hb2 (p := ⟨w.heap.size, 0, none⟩) (v := false) (by first | (simp [go_sem]; done) | (simp [go_sem]; omega)) (by simp [go_sem])
  have d0 := below_cell hb2 (p := ⟨w.heap.size, 0, none⟩) (v := .string ⟨#[]⟩) (by first | (simp [go_sem]; done) | (simp [go_sem]; omega)) (by simp [go_sem])
  have c1 := below_cell hb2 (p := ⟨w.heap.size + 1 + 1, 1, none⟩) (v := .string a) (by first | (simp [go_sem]; done) | (simp [go_sem]; omega)) (by simp [go_sem])
  have f1 := below_frozen hb2 (p := ⟨w.heap.size, 1, none⟩) (v := false) (by first | (simp [go_sem]; done) | (simp [go_sem]; omega)) (by simp [go_sem])
  have d1 := below_cell hb2 (p := ⟨w.heap.size, 1, none⟩) (v := .string ⟨#[]⟩) (by first | (simp [go_sem]; done) | (simp [go_sem]; omega)) (by simp [go_sem])
  have c2 := below_cell hb2 (p := ⟨w.heap.size + 1 + 1, 2, none⟩) (v := .string t) (by first | (simp [go_sem]; done) | (simp [go_sem]; omega)) (by simp [go_sem])
  have f2 := below_frozen hb2 (p := ⟨w.heap.size, 2, none⟩) (v := false) (by first | (simp [go_sem]; done) | (simp [go_sem]; omega)) (by simp [go_sem])
  have d2 := below_cell hb2 (p := ⟨w.heap.size, 2, none⟩) (v := .string ⟨#[]⟩) (by first | (simp [go_sem]; done) | (simp [go_sem]; omega)) (by simp [go_sem])
  have c3 := below_cell hb2 (p := ⟨w.heap.size + 1 + 1, 3, none⟩) (v := .string c) (by first | (simp [go_sem]; done) | (simp [go_sem]; omega)) (by simp [go_sem])
  have f3 := below_frozen hb2 (p := ⟨w.heap.size, 3, none⟩) (v := false) (by first | (simp [go_sem]; done) | (simp [go_sem]; omega)) (by simp [go_sem])
  have d3 := below_cell hb2 (p := ⟨w.heap.size, 3, none⟩) (v := .string ⟨#[]⟩) (by first | (simp [go_sem]; done) | (simp [go_sem]; omega)) (by simp [go_sem])
  have hz2 := hb2.size
  simp [go_sem] at hz2
  have hbw : Below w.heap.size w w2 := by
    refine Below.trans ?_ (hb2.mono (by first | (simp [go_sem]; done) | (simp [go_sem]; omega)))
    refine Below.drew ?_
    exact below_al' _ (below_al' _ (below_al' _ (Below.refl _ _) (Nat.le_refl _)) (Nat.le_refl _)) (Nat.le_refl _)
  have HBW := Lib.hid hbw
  clear hbw hb2
  go_wp2
  refine bodyPost_ret (v := .tuple #[keyV ⟨#[]⟩ ⟨#[]⟩ ⟨#[]⟩ ⟨#[]⟩, .int .i64 1]) (by simp [results, Tryd.results63, go_sem, keyV, *]) rfl ⟨rfl, ?_⟩
  exact (((HBW.out.setCell (Nat.le_refl _) _).setCell (Nat.le_refl _) _).setCell (Nat.le_refl _) _).setCell (Nat.le_refl _) _

set_option maxHeartbeats 2000000 in
theorem ParseKey_4_other (s g a t c : ByteArray) (hs : s.size ≤ 1000000) (hg : g.size ≤ 1000000) (ha : a.size ≤ 1000000) (ht : t.size ≤ 1000000) (hc : c.size ≤ 1000000) (hn : Lib.countB s ⟨#[58]⟩ = 3) (hl : Lib.splitB ⟨#[58]⟩ 0 3 s = [g, a, t, c]) (hk : mayKey g a t c = true) (hp : ((printKey g a t c).toList == s.toList) = false) (hp2 : (!((printKey g a t c).toList == s.toList)) = true)
    (w : World) (hm : MaxOk w) :
    Calls Tryd.prog 63 #[.string s] w fun e w' => e = .returned (.tuple #[keyV ⟨#[]⟩ ⟨#[]⟩ ⟨#[]⟩ ⟨#[]⟩, .int .i64 1]) ∧ Below w.heap.size w w' := by
  have h1 := Split_any s hs 3 [g, a, t, c] hn hl _ (hm.al (Obj.cells #[Value.string { data := #[] }, Value.string { data := #[] }, Value.string { data := #[] }, Value.string { data := #[] }] 40))
  have h2 := fun w => MayKey_any g a t c hg ha ht hc w
  rw [hk] at h2
  have h3 := fun w => PrintKey_any g a t c hg ha ht hc w
  generalize hpk : printKey g a t c = pk at h3 hp hp2
  unfold keyV at h2 h3
  have H1 := Lib.hid h1
  have H2 := Lib.hid h2
  have H3 := Lib.hid h3
  clear h1 h2 h3 hm hl hn hk hpk
  go_enter Tryd.func63, Tryd.ntmps63
  go_wp2_with fail
  refine H1.out.mono ?_
  rintro e w' ⟨rfl, rfl⟩
  go_wp2_with fail
  go_region_held3 (fun w' => w'.cell? ⟨w.heap.size + 1, 0, none⟩ = some (.string g) ∧ w'.cell? ⟨w.heap.size + 1, 1, none⟩ = some (.string a) ∧ w'.cell? ⟨w.heap.size + 1, 2, none⟩ = some (.string t)) (go_keep) (fail)
  rename_i hHeld
  clear hHeld
  go_wp2_with fail
  refine (H2.out _).mono ?_
  rintro e w2 ⟨rfl, hb2⟩
  have c0 := below_cell hb2 (p := ⟨w.heap.size + 1 + 1, 0, none⟩) (v := .string g) (by first | (simp [go_sem]; done) | (simp [go_sem]; omega)) (by simp [go_sem])
  have f0 := below_frozen hb2 (p := ⟨w.heap.size, 0, none⟩) (v := false) (by first | (simp [go_sem]; done) | (simp [go_sem]; omega)) (by simp [go_sem])
  have d0 := below_cell hb2 (p := ⟨w.heap.size, 0, none⟩) (v := .string ⟨#[]⟩) (by first | (simp [go_sem]; done) | (simp [go_sem]; omega)) (by simp [go_sem])
  have c1 := below_cell hb2 (p := ⟨w.heap.size + 1 + 1, 1, none⟩) (v := .string a) (by first | (simp [go_sem]; done) | (simp [go_sem]; omega)) (by simp [go_sem])
  have f1 := below_frozen hb2 (p := ⟨w.heap.size, 1, none⟩) (v := false) (by first | (simp [go_sem]; done) | (simp [go_sem]; omega)) (by simp [go_sem])
  have d1 := below_cell hb2 (p := ⟨w.heap.size, 1, none⟩) (v := .string ⟨#[]⟩) (by first | (simp [go_sem]; done) | (simp [go_sem]; omega)) (by simp [go_sem])
  have c2 := below_cell hb2 (p := ⟨w.heap.size + 1 + 1, 2, none⟩) (v := .string t) (by first | (simp [go_sem]; done) | (simp [go_sem]; omega)) (by simp [go_sem])
  have f2 := below_frozen hb2 (p := ⟨w.heap.size, 2, none⟩) (v := false) (by first | (simp [go_sem]; done) | (simp [go_sem]; omega)) (by simp [go_sem])
  have d2 := below_cell hb2 (p := ⟨w.heap.size, 2, none⟩) (v := .string ⟨#[]⟩) (by first | (simp [go_sem]; done) | (simp [go_sem]; omega)) (by simp [go_sem])
  have c3 := below_cell hb2 (p := ⟨w.heap.size + 1 + 1, 3, none⟩) (v := .string c) (by first | (simp [go_sem]; done) | (simp [go_sem]; omega)) (by simp [go_sem])
  have f3 := below_frozen hb2 (p := ⟨w.heap.size, 3, none⟩) (v := false) (by first | (simp [go_sem]; done) | (simp [go_sem]; omega)) (by simp [go_sem])
  have d3 := below_cell hb2 (p := ⟨w.heap.size, 3, none⟩) (v := .string ⟨#[]⟩) (by first | (simp [go_sem]; done) | (simp [go_sem]; omega)) (by simp [go_sem])
  have hz2 := hb2.size
  simp [go_sem] at hz2
  have hbw : Below w.heap.size w w2 := by
    refine Below.trans ?_ (hb2.mono (by first | (simp [go_sem]; done) | (simp [go_sem]; omega)))
    refine Below.drew ?_
    exact below_al' _ (below_al' _ (below_al' _ (Below.refl _ _) (Nat.le_refl _)) (Nat.le_refl _)) (Nat.le_refl _)
  have HBW := Lib.hid hbw
  clear hbw hb2
  go_wp2_with fail
  refine (H3.out _).mono ?_
  rintro e w3 ⟨rfl, hb3⟩
  have c0' := below_cell hb3 (p := ⟨w.heap.size + 1 + 1, 0, none⟩) (v := .string g) (by simp only; omega) c0
  have f0' := below_frozen hb3 (p := ⟨w.heap.size, 0, none⟩) (v := false) (by simp only; omega) f0
  have d0' := below_cell hb3 (p := ⟨w.heap.size, 0, none⟩) (v := .string ⟨#[]⟩) (by simp only; omega) d0
  have c1' := below_cell hb3 (p := ⟨w.heap.size + 1 + 1, 1, none⟩) (v := .string a) (by simp only; omega) c1
  have f1' := below_frozen hb3 (p := ⟨w.heap.size, 1, none⟩) (v := false) (by simp only; omega) f1
  have d1' := below_cell hb3 (p := ⟨w.heap.size, 1, none⟩) (v := .string ⟨#[]⟩) (by simp only; omega) d1
  have c2' := below_cell hb3 (p := ⟨w.heap.size + 1 + 1, 2, none⟩) (v := .string t) (by simp only; omega) c2
  have f2' := below_frozen hb3 (p := ⟨w.heap.size, 2, none⟩) (v := false) (by simp only; omega) f2
  have d2' := below_cell hb3 (p := ⟨w.heap.size, 2, none⟩) (v := .string ⟨#[]⟩) (by simp only; omega) d2
  have c3' := below_cell hb3 (p := ⟨w.heap.size + 1 + 1, 3, none⟩) (v := .string c) (by simp only; omega) c3
  have f3' := below_frozen hb3 (p := ⟨w.heap.size, 3, none⟩) (v := false) (by simp only; omega) f3
  have d3' := below_cell hb3 (p := ⟨w.heap.size, 3, none⟩) (v := .string ⟨#[]⟩) (by simp only; omega) d3
  have hz3 := hb3.size
  have hbw3 := HBW.out.trans (hb3.mono (by omega))
  have HBW3 := Lib.hid hbw3
  clear hbw3 hb3 c0 f0 d0 c1 f1 d1 c2 f2 d2 c3 f3 d3
  go_wp2
  refine bodyPost_ret (v := .tuple #[keyV ⟨#[]⟩ ⟨#[]⟩ ⟨#[]⟩ ⟨#[]⟩, .int .i64 1]) (by simp [results, Tryd.results63, go_sem, keyV, *]) rfl ⟨rfl, ?_⟩
  exact (((HBW3.out.setCell (Nat.le_refl _) _).setCell (Nat.le_refl _) _).setCell (Nat.le_refl _) _).setCell (Nat.le_refl _) _

end Go.Proofs.YtcmojpfolmcaoaaDoor
