/-
  Layer 6: names and patterns: contracts of coord.MayKey, MayGav, MayPattern, Matches, PrintKey, PrintGav, ParseKey, ParseGav and of their answers. Own work.
-/
import Derived.Test.YtoibanffaebllaaIds
import Derived.Test.YtoibanffaebllaaShelf
namespace Go.Proofs.Ytoibanffaebllaa
set_option linter.unusedVariables false
set_option linter.unusedSimpArgs false
open Go.RowKit

def gavV (g a v : ByteArray) : Value := .agg #[.string g, .string a, .string v]
def keyV (g a t c : ByteArray) : Value := .agg #[.string g, .string a, .string t, .string c]
def idV (g a : ByteArray) : Value := .agg #[.string g, .string a]
def mayGav (g a v : ByteArray) : Bool := isId g && isId a && mayVer v
def mayKey (g a t c : ByteArray) : Bool := isId g && isId a && isId t && (decide (c.size = 0) || isId c)
def star : ByteArray := ⟨#[42]⟩
def matchB (pg pa g a : ByteArray) : Bool := (pg.toList == [42] || pg.toList == g.toList) && (pa.toList == [42] || pa.toList == a.toList)

theorem below_al' {B : Nat} {w w' : World} (o : Obj) (hb : Below B w w') (hB : B ≤ w.heap.size) : Below B w (w'.alloc o) := hb.alloc (Nat.le_trans hB hb.size) o
set_option maxHeartbeats 4000000 in
theorem MayKey_any (g a t c : ByteArray) (hg : g.size ≤ 1000000) (ha : a.size ≤ 1000000) (ht : t.size ≤ 1000000) (hc : c.size ≤ 1000000) (w : World) :
    Calls Try.prog 58 #[keyV g a t c] w fun e w' => e = .returned (.bool (mayKey g a t c)) ∧ Below w.heap.size w w' := by
  have hemp := isEmpty_beq c
  have h1 := fun w => IsId_any g hg w
  have h2 := fun w => IsId_any a ha w
  have h3 := fun w => IsId_any t ht w
  have h4 := fun w => IsId_any c hc w
  unfold mayKey keyV
  generalize isId g = b1 at h1 ⊢
  generalize isId a = b2 at h2 ⊢
  generalize isId t = b3 at h3 ⊢
  generalize isId c = b4 at h4 ⊢
  generalize decide (c.size = 0) = b5 at hemp ⊢
  have H1 := Lib.hid h1
  have H2 := Lib.hid h2
  have H3 := Lib.hid h3
  have H4 := Lib.hid h4
  clear h1 h2 h3 h4
  rcases b1 with _ | _
  case false =>
    go_enter Try.func58, Try.ntmps58
    go_wp2_with fail
    refine (H1.out _).mono ?_
    rintro e w' ⟨rfl, rfl⟩
    go_wp2
    go_ret
    exact ⟨ret_bool (by simp), by repeat (first | exact Below.refl _ _ | refine below_al' _ ?_ (Nat.le_refl _))⟩
  rcases b2 with _ | _
  case false =>
    go_enter Try.func58, Try.ntmps58
    go_wp2_with fail
    refine (H1.out _).mono ?_
    rintro e w' ⟨rfl, rfl⟩
    go_wp2_with fail
    refine (H2.out _).mono ?_
    rintro e w' ⟨rfl, rfl⟩
    go_wp2
    go_ret
    exact ⟨ret_bool (by simp), by repeat (first | exact Below.refl _ _ | refine below_al' _ ?_ (Nat.le_refl _))⟩
  rcases b3 with _ | _
  case false =>
    go_enter Try.func58, Try.ntmps58
    go_wp2_with fail
    refine (H1.out _).mono ?_
    rintro e w' ⟨rfl, rfl⟩
    go_wp2_with fail
    refine (H2.out _).mono ?_
    rintro e w' ⟨rfl, rfl⟩
    go_wp2_with fail
    refine (H3.out _).mono ?_
    rintro e w' ⟨rfl, rfl⟩
    go_wp2
    go_ret
    exact ⟨ret_bool (by simp), by repeat (first | exact Below.refl _ _ | refine below_al' _ ?_ (Nat.le_refl _))⟩
  rcases b5 with _ | _
  case true =>
    go_enter Try.func58, Try.ntmps58
    go_wp2_with fail
    refine (H1.out _).mono ?_
    rintro e w' ⟨rfl, rfl⟩
    go_wp2_with fail
    refine (H2.out _).mono ?_
    rintro e w' ⟨rfl, rfl⟩
    go_wp2_with fail
    refine (H3.out _).mono ?_
    rintro e w' ⟨rfl, rfl⟩
    go_wp2
    go_ret
    exact ⟨ret_bool (by simp), by repeat (first | exact Below.refl _ _ | refine below_al' _ ?_ (Nat.le_refl _))⟩
  case false =>
    go_enter Try.func58, Try.ntmps58
    go_wp2_with fail
    refine (H1.out _).mono ?_
    rintro e w' ⟨rfl, rfl⟩
    go_wp2_with fail
    refine (H2.out _).mono ?_
    rintro e w' ⟨rfl, rfl⟩
    go_wp2_with fail
    refine (H3.out _).mono ?_
    rintro e w' ⟨rfl, rfl⟩
    go_wp2_with fail
    refine (H4.out _).mono ?_
    rintro e w' ⟨rfl, rfl⟩
    go_wp2
    go_ret
    exact ⟨ret_bool (by simp), by repeat (first | exact Below.refl _ _ | refine below_al' _ ?_ (Nat.le_refl _))⟩
set_option maxHeartbeats 4000000 in
theorem refMayKey_any (g a t c : ByteArray) (hg : g.size ≤ 1000000) (ha : a.size ≤ 1000000) (ht : t.size ≤ 1000000) (hc : c.size ≤ 1000000) (w : World) :
    Calls Try.prog 52 #[keyV g a t c] w fun e w' => e = .returned (.bool (mayKey g a t c)) ∧ Below w.heap.size w w' := by
  have hemp := isEmpty_beq c
  have h1 := fun w => refIsId_any g hg w
  have h2 := fun w => refIsId_any a ha w
  have h3 := fun w => refIsId_any t ht w
  have h4 := fun w => refIsId_any c hc w
  unfold mayKey keyV
  generalize isId g = b1 at h1 ⊢
  generalize isId a = b2 at h2 ⊢
  generalize isId t = b3 at h3 ⊢
  generalize isId c = b4 at h4 ⊢
  generalize decide (c.size = 0) = b5 at hemp ⊢
  have H1 := Lib.hid h1
  have H2 := Lib.hid h2
  have H3 := Lib.hid h3
  have H4 := Lib.hid h4
  clear h1 h2 h3 h4
  rcases b1 with _ | _
  case false =>
    go_enter Try.func52, Try.ntmps52
    go_wp2_with fail
    refine (H1.out _).mono ?_
    rintro e w' ⟨rfl, rfl⟩
    go_wp2
    go_ret
    exact ⟨ret_bool (by simp), by repeat (first | exact Below.refl _ _ | refine below_al' _ ?_ (Nat.le_refl _))⟩
  rcases b2 with _ | _
  case false =>
    go_enter Try.func52, Try.ntmps52
    go_wp2_with fail
    refine (H1.out _).mono ?_
    rintro e w' ⟨rfl, rfl⟩
    go_wp2_with fail
    refine (H2.out _).mono ?_
    rintro e w' ⟨rfl, rfl⟩
    go_wp2
    go_ret
    exact ⟨ret_bool (by simp), by repeat (first | exact Below.refl _ _ | refine below_al' _ ?_ (Nat.le_refl _))⟩
  rcases b3 with _ | _
  case false =>
    go_enter Try.func52, Try.ntmps52
    go_wp2_with fail
    refine (H1.out _).mono ?_
    rintro e w' ⟨rfl, rfl⟩
    go_wp2_with fail
    refine (H2.out _).mono ?_
    rintro e w' ⟨rfl, rfl⟩
    go_wp2_with fail
    refine (H3.out _).mono ?_
    rintro e w' ⟨rfl, rfl⟩
    go_wp2
    go_ret
    exact ⟨ret_bool (by simp), by repeat (first | exact Below.refl _ _ | refine below_al' _ ?_ (Nat.le_refl _))⟩
  rcases b5 with _ | _
  case true =>
    go_enter Try.func52, Try.ntmps52
    go_wp2_with fail
    refine (H1.out _).mono ?_
    rintro e w' ⟨rfl, rfl⟩
    go_wp2_with fail
    refine (H2.out _).mono ?_
    rintro e w' ⟨rfl, rfl⟩
    go_wp2_with fail
    refine (H3.out _).mono ?_
    rintro e w' ⟨rfl, rfl⟩
    go_wp2
    go_ret
    exact ⟨ret_bool (by simp), by repeat (first | exact Below.refl _ _ | refine below_al' _ ?_ (Nat.le_refl _))⟩
  case false =>
    go_enter Try.func52, Try.ntmps52
    go_wp2_with fail
    refine (H1.out _).mono ?_
    rintro e w' ⟨rfl, rfl⟩
    go_wp2_with fail
    refine (H2.out _).mono ?_
    rintro e w' ⟨rfl, rfl⟩
    go_wp2_with fail
    refine (H3.out _).mono ?_
    rintro e w' ⟨rfl, rfl⟩
    go_wp2_with fail
    refine (H4.out _).mono ?_
    rintro e w' ⟨rfl, rfl⟩
    go_wp2
    go_ret
    exact ⟨ret_bool (by simp), by repeat (first | exact Below.refl _ _ | refine below_al' _ ?_ (Nat.le_refl _))⟩
set_option maxHeartbeats 4000000 in
theorem MayGav_any (g a v : ByteArray) (hg : g.size ≤ 1000000) (ha : a.size ≤ 1000000) (hv : v.size ≤ 1000000) (w : World) :
    Calls Try.prog 45 #[gavV g a v] w fun e w' => e = .returned (.bool (mayGav g a v)) ∧ Below w.heap.size w w' := by
  have h1 := fun w => IsId_any g hg w
  have h2 := fun w => IsId_any a ha w
  have h3 := fun w => MayVer_any v hv w
  unfold mayGav gavV
  generalize isId g = b1 at h1 ⊢
  generalize isId a = b2 at h2 ⊢
  generalize mayVer v = b3 at h3 ⊢
  have H1 := Lib.hid h1
  have H2 := Lib.hid h2
  have H3 := Lib.hid h3
  clear h1 h2 h3
  rcases b1 with _ | _
  case false =>
    go_enter Try.func45, Try.ntmps45
    go_wp2_with fail
    refine (H1.out _).mono ?_
    rintro e w' ⟨rfl, rfl⟩
    go_wp2
    go_ret
    exact ⟨ret_bool (by simp), by repeat (first | exact Below.refl _ _ | refine below_al' _ ?_ (Nat.le_refl _))⟩
  rcases b2 with _ | _
  case false =>
    go_enter Try.func45, Try.ntmps45
    go_wp2_with fail
    refine (H1.out _).mono ?_
    rintro e w' ⟨rfl, rfl⟩
    go_wp2_with fail
    refine (H2.out _).mono ?_
    rintro e w' ⟨rfl, rfl⟩
    go_wp2
    go_ret
    exact ⟨ret_bool (by simp), by repeat (first | exact Below.refl _ _ | refine below_al' _ ?_ (Nat.le_refl _))⟩
  case true =>
    go_enter Try.func45, Try.ntmps45
    go_wp2_with fail
    refine (H1.out _).mono ?_
    rintro e w' ⟨rfl, rfl⟩
    go_wp2_with fail
    refine (H2.out _).mono ?_
    rintro e w' ⟨rfl, rfl⟩
    go_wp2_with fail
    refine (H3.out _).mono ?_
    rintro e w' ⟨rfl, rfl⟩
    go_wp2
    go_ret
    exact ⟨ret_bool (by simp), by repeat (first | exact Below.refl _ _ | refine below_al' _ ?_ (Nat.le_refl _))⟩
set_option maxHeartbeats 4000000 in
theorem refMayGav_any (g a v : ByteArray) (hg : g.size ≤ 1000000) (ha : a.size ≤ 1000000) (hv : v.size ≤ 1000000) (w : World) :
    Calls Try.prog 36 #[gavV g a v] w fun e w' => e = .returned (.bool (mayGav g a v)) ∧ Below w.heap.size w w' := by
  have h1 := fun w => refIsId_any g hg w
  have h2 := fun w => refIsId_any a ha w
  have h3 := fun w => refMayVer_any v hv w
  unfold mayGav gavV
  generalize isId g = b1 at h1 ⊢
  generalize isId a = b2 at h2 ⊢
  generalize mayVer v = b3 at h3 ⊢
  have H1 := Lib.hid h1
  have H2 := Lib.hid h2
  have H3 := Lib.hid h3
  clear h1 h2 h3
  rcases b1 with _ | _
  case false =>
    go_enter Try.func36, Try.ntmps36
    go_wp2_with fail
    refine (H1.out _).mono ?_
    rintro e w' ⟨rfl, rfl⟩
    go_wp2
    go_ret
    exact ⟨ret_bool (by simp), by repeat (first | exact Below.refl _ _ | refine below_al' _ ?_ (Nat.le_refl _))⟩
  rcases b2 with _ | _
  case false =>
    go_enter Try.func36, Try.ntmps36
    go_wp2_with fail
    refine (H1.out _).mono ?_
    rintro e w' ⟨rfl, rfl⟩
    go_wp2_with fail
    refine (H2.out _).mono ?_
    rintro e w' ⟨rfl, rfl⟩
    go_wp2
    go_ret
    exact ⟨ret_bool (by simp), by repeat (first | exact Below.refl _ _ | refine below_al' _ ?_ (Nat.le_refl _))⟩
  case true =>
    go_enter Try.func36, Try.ntmps36
    go_wp2_with fail
    refine (H1.out _).mono ?_
    rintro e w' ⟨rfl, rfl⟩
    go_wp2_with fail
    refine (H2.out _).mono ?_
    rintro e w' ⟨rfl, rfl⟩
    go_wp2_with fail
    refine (H3.out _).mono ?_
    rintro e w' ⟨rfl, rfl⟩
    go_wp2
    go_ret
    exact ⟨ret_bool (by simp), by repeat (first | exact Below.refl _ _ | refine below_al' _ ?_ (Nat.le_refl _))⟩
end Go.Proofs.Ytoibanffaebllaa
