/-
  Layer 6: keys and projects as texts: contracts of coord.PrintKey, PrintGav, ParseKey, ParseGav and of the answers; the document's examples hold. Own work.
-/
import Derived.Test.YtinhedegbaegnaaDoorMatch
import Derived.Test.YtinhedegbaegnaaDoorScope
import Derived.Test.YtinhedegbaegnaaDoorLaw
import Derived.Deep.RegionHeld3
namespace Go.Proofs.YtinhedegbaegnaaDoor
set_option linter.unusedVariables false
set_option linter.unusedSimpArgs false
open Go.RowKit

def printKey (g a t c : ByteArray) : ByteArray := if c.size = 0 then g ++ ⟨#[58]⟩ ++ a ++ ⟨#[58]⟩ ++ t else g ++ ⟨#[58]⟩ ++ a ++ ⟨#[58]⟩ ++ t ++ (⟨#[58]⟩ ++ c)
def printGav (g a v : ByteArray) : ByteArray := g ++ ⟨#[58]⟩ ++ a ++ ⟨#[58]⟩ ++ v
theorem PrintKey_any (g a t c : ByteArray) (hg : g.size ≤ 1000000) (ha : a.size ≤ 1000000) (ht : t.size ≤ 1000000) (hc : c.size ≤ 1000000) (w : World) :
    Calls Tryd.prog 24 #[keyV g a t c] w fun e w' => e = .returned (.string (printKey g a t c)) ∧ Below w.heap.size w w' := by
  have hemp := isEmpty_beq c
  unfold printKey keyV
  by_cases h0 : c.size = 0
  · rw [decide_eq_true h0] at hemp
    rw [if_pos h0]
    go_enter Tryd.func24, Tryd.ntmps24
    go_wp2
    go_ret
    exact ⟨rfl, by repeat (first | exact Below.refl _ _ | refine below_al' _ ?_ (Nat.le_refl _))⟩
  · rw [decide_eq_false h0] at hemp
    rw [if_neg h0]
    go_enter Tryd.func24, Tryd.ntmps24
    go_wp2
    go_ret
    exact ⟨rfl, by repeat (first | exact Below.refl _ _ | refine below_al' _ ?_ (Nat.le_refl _))⟩

theorem below_cell {w w' : World} (hb : Below w.heap.size w w') {p : Addr} {v : Value} (hlt : p.block < w.heap.size) (h : w.cell? p = some v) : w'.cell? p = some v := (hb.cell hlt).trans h
theorem below_frozen {w w' : World} (hb : Below w.heap.size w w') {p : Addr} {v : Bool} (hlt : p.block < w.heap.size) (h : w.frozen? p = v) : w'.frozen? p = v := (hb.frozen hlt).trans h
/-- internal/bytealg.MaxLen holds a number -/
def MaxOk (w : World) : Prop := 0 < w.heap.size ∧ ∃ m, w.cell? ⟨0, 0, none⟩ = some (.int .i64 m)
theorem MaxOk.below {w w' : World} {B : Nat} (h : MaxOk w) (hb : Below B w w') (hB : w.heap.size ≤ B) : MaxOk w' := by
  obtain ⟨h0, m, hm⟩ := h
  exact ⟨Nat.lt_of_lt_of_le h0 hb.size, m, (hb.cell (p := ⟨0, 0, none⟩) (Nat.lt_of_lt_of_le h0 hB)).trans hm⟩
theorem MaxOk.al {w : World} (h : MaxOk w) (o : Obj) : MaxOk (w.alloc o) := h.below ((Below.refl _ _).alloc (Nat.le_refl _) o) (Nat.le_refl _)
theorem Split_any (s : ByteArray) (hs : s.size ≤ 1000000) (n : Nat) (l : List ByteArray) (hn : Lib.countB s ⟨#[58]⟩ = n) (hl : Lib.splitB ⟨#[58]⟩ 0 n s = l) (w : World) (hm : MaxOk w) :
    Calls Tryd.prog 42 #[.string s, .string ⟨#[58]⟩] w fun e w' =>
      e = .returned (.slice (some ⟨w.heap.size, 0, none⟩) (n + 1) (n + 1)) ∧ w' = w.alloc (.cells (l.map Value.string).toArray 9) := by
  obtain ⟨_, m, hm⟩ := hm
  have h1 := Tryd.strings_Split s ⟨#[58]⟩ m w (by omega) hm (by decide)
  rw [hn, hl] at h1
  exact h1

set_option maxHeartbeats 1000000 in
theorem ParseKey_4 (s g a t c : ByteArray) (hs : s.size ≤ 1000000) (hg : g.size ≤ 1000000) (ha : a.size ≤ 1000000) (ht : t.size ≤ 1000000) (hc : c.size ≤ 1000000)
    (hn : Lib.countB s ⟨#[58]⟩ = 3) (hl : Lib.splitB ⟨#[58]⟩ 0 3 s = [g, a, t, c]) (hk : mayKey g a t c = true) (hp : ((printKey g a t c).toList == s.toList) = true)
    (w : World) (hm : MaxOk w) :
    Calls Tryd.prog 22 #[.string s] w fun e w' => e = .returned (.tuple #[keyV g a t c, .int .i64 0]) ∧ Below w.heap.size w w' := by
  have h1 := Split_any s hs 3 [g, a, t, c] hn hl _ (hm.al (Obj.cells #[Value.string { data := #[] }, Value.string { data := #[] }, Value.string { data := #[] }, Value.string { data := #[] }] 25))
  have h2 := fun w => MayKey_any g a t c hg ha ht hc w
  rw [hk] at h2
  have h3 := fun w => PrintKey_any g a t c hg ha ht hc w
  generalize hpk : printKey g a t c = pk at h3 hp
  unfold keyV at h2 h3
  have H1 := Lib.hid h1
  have H2 := Lib.hid h2
  have H3 := Lib.hid h3
  clear h1 h2 h3 hm hl hn hk hpk
  go_enter Tryd.func22, Tryd.ntmps22
  go_wp2_with fail
  refine H1.out.mono ?_
  rintro e w' ⟨rfl, rfl⟩
  go_wp2_with fail
  go_region_held3 (fun w' => w'.cell? ⟨w.heap.size + 1, 0, none⟩ = some (.string g) ∧ w'.cell? ⟨w.heap.size + 1, 1, none⟩ = some (.string a) ∧ w'.cell? ⟨w.heap.size + 1, 2, none⟩ = some (.string t)) (go_keep) (fail)
  rename_i hHeld
  clear hHeld
  go_wp2_with fail
  refine (H2.out _).mono ?_
  rintro e w2 ⟨rfl, hb2⟩
  have c0 := below_cell hb2 (p := ⟨w.heap.size + 1 + 1, 0, none⟩) (v := .string g) (by simp [go_sem]) (by simp [go_sem])
  have c1 := below_cell hb2 (p := ⟨w.heap.size + 1 + 1, 1, none⟩) (v := .string a) (by simp [go_sem]) (by simp [go_sem])
  have c2 := below_cell hb2 (p := ⟨w.heap.size + 1 + 1, 2, none⟩) (v := .string t) (by simp [go_sem]) (by simp [go_sem])
  have c3 := below_cell hb2 (p := ⟨w.heap.size + 1 + 1, 3, none⟩) (v := .string c) (by simp [go_sem]) (by simp [go_sem])
  have f0 := below_frozen hb2 (p := ⟨w.heap.size, 0, none⟩) (v := false) (by first | (simp [go_sem]; done) | (simp [go_sem]; omega)) (by simp [go_sem])
  have d0 := below_cell hb2 (p := ⟨w.heap.size, 0, none⟩) (v := .string ⟨#[]⟩) (by first | (simp [go_sem]; done) | (simp [go_sem]; omega)) (by simp [go_sem])
  have f1 := below_frozen hb2 (p := ⟨w.heap.size, 1, none⟩) (v := false) (by first | (simp [go_sem]; done) | (simp [go_sem]; omega)) (by simp [go_sem])
  have d1 := below_cell hb2 (p := ⟨w.heap.size, 1, none⟩) (v := .string ⟨#[]⟩) (by first | (simp [go_sem]; done) | (simp [go_sem]; omega)) (by simp [go_sem])
  have f2 := below_frozen hb2 (p := ⟨w.heap.size, 2, none⟩) (v := false) (by first | (simp [go_sem]; done) | (simp [go_sem]; omega)) (by simp [go_sem])
  have d2 := below_cell hb2 (p := ⟨w.heap.size, 2, none⟩) (v := .string ⟨#[]⟩) (by first | (simp [go_sem]; done) | (simp [go_sem]; omega)) (by simp [go_sem])
  have f3 := below_frozen hb2 (p := ⟨w.heap.size, 3, none⟩) (v := false) (by first | (simp [go_sem]; done) | (simp [go_sem]; omega)) (by simp [go_sem])
  have d3 := below_cell hb2 (p := ⟨w.heap.size, 3, none⟩) (v := .string ⟨#[]⟩) (by first | (simp [go_sem]; done) | (simp [go_sem]; omega)) (by simp [go_sem])
  have hz2 := hb2.size
  simp [go_sem] at hz2
  have hbw : Below w.heap.size w w2 := by
    refine Below.trans ?_ (hb2.mono (by first | (simp [go_sem]; done) | (simp [go_sem]; omega)))
    refine Below.drew ?_
    exact below_al' _ (below_al' _ (below_al' _ (Below.refl _ _) (Nat.le_refl _)) (Nat.le_refl _)) (Nat.le_refl _)
  have HBW := Lib.hid hbw
  clear hbw hb2
  go_wp2_with fail
  refine (H3.out _).mono ?_
  rintro e w3 ⟨rfl, hb3⟩
  have c0' := below_cell hb3 (p := ⟨w.heap.size + 1 + 1, 0, none⟩) (v := .string g) (by simp only; omega) c0
  have c1' := below_cell hb3 (p := ⟨w.heap.size + 1 + 1, 1, none⟩) (v := .string a) (by simp only; omega) c1
  have c2' := below_cell hb3 (p := ⟨w.heap.size + 1 + 1, 2, none⟩) (v := .string t) (by simp only; omega) c2
  have c3' := below_cell hb3 (p := ⟨w.heap.size + 1 + 1, 3, none⟩) (v := .string c) (by simp only; omega) c3
  have f0' := below_frozen hb3 (p := ⟨w.heap.size, 0, none⟩) (v := false) (by simp only; omega) f0
  have d0' := below_cell hb3 (p := ⟨w.heap.size, 0, none⟩) (v := .string ⟨#[]⟩) (by simp only; omega) d0
  have f1' := below_frozen hb3 (p := ⟨w.heap.size, 1, none⟩) (v := false) (by simp only; omega) f1
  have d1' := below_cell hb3 (p := ⟨w.heap.size, 1, none⟩) (v := .string ⟨#[]⟩) (by simp only; omega) d1
  have f2' := below_frozen hb3 (p := ⟨w.heap.size, 2, none⟩) (v := false) (by simp only; omega) f2
  have d2' := below_cell hb3 (p := ⟨w.heap.size, 2, none⟩) (v := .string ⟨#[]⟩) (by simp only; omega) d2
  have f3' := below_frozen hb3 (p := ⟨w.heap.size, 3, none⟩) (v := false) (by simp only; omega) f3
  have d3' := below_cell hb3 (p := ⟨w.heap.size, 3, none⟩) (v := .string ⟨#[]⟩) (by simp only; omega) d3
  have hz3 := hb3.size
  have hbw3 := HBW.out.trans (hb3.mono (by omega))
  have HBW3 := Lib.hid hbw3
  clear hbw3 hb3 c0 c1 c2 c3 f0 f1 f2 f3 d0 d1 d2 d3
  go_wp2
  refine bodyPost_ret (v := .tuple #[keyV g a t c, .int .i64 0]) (by simp [results, Tryd.results22, go_sem, keyV, *]) rfl ⟨rfl, ?_⟩
  exact (((HBW3.out.setCell (Nat.le_refl _) _).setCell (Nat.le_refl _) _).setCell (Nat.le_refl _) _).setCell (Nat.le_refl _) _

theorem lives06 (w : World) (hm : MaxOk w) : Calls Tryd.prog 11 #[] w fun e w' => e = .returned (.bool true) ∧ Below w.heap.size w w' := by
  have k1 := ParseKey_4 ⟨#[103, 58, 97, 58, 106, 97, 114, 58, 115, 114, 99]⟩ ⟨#[103]⟩ ⟨#[97]⟩ ⟨#[106, 97, 114]⟩ ⟨#[115, 114, 99]⟩ (by decide) (by decide) (by decide) (by decide) (by decide) (by kernel_rfl) (by kernel_rfl) (by kernel_rfl) (by kernel_rfl) _ hm
  have K1 := Lib.hid k1; clear k1
  go_enter Tryd.func11, Tryd.ntmps11
  go_wp2_with fail
  refine K1.out.mono ?_
  unfold keyV
  rintro e w1 ⟨rfl, hb1⟩
  go_wp2_with fail
  refine (Derive_any _ _ _).mono ?_
  rintro e w' ⟨rfl, rfl⟩
  rw [show derI 1 2 = 2 from rfl]
  go_wp2_with fail
  refine (Derive_any _ _ _).mono ?_
  rintro e w' ⟨rfl, rfl⟩
  rw [show derI 5 1 = 5 from rfl]
  go_wp2_with fail
  refine (Derive_any _ _ _).mono ?_
  rintro e w' ⟨rfl, rfl⟩
  rw [show derI 1 5 = 0 from rfl]
  go_wp2_with fail
  refine (Visible_any _ _ _).mono ?_
  rintro e w' ⟨rfl, rfl⟩
  rw [show visB 3 1 = true from rfl]
  go_wp2
  go_ret
  exact ⟨rfl, hb1.alloc hb1.size _⟩
end Go.Proofs.YtinhedegbaegnaaDoor
