/-
  Layer 6: the card CoordPrints. Own work.
-/
import Derived.Test.YtinhedegbaegnaaDoorParsed6
import Derived.Test.YtinhedegbaegnaaDoorOpen6
import Derived.Deep.RegionHeld3
namespace Go.Proofs.YtinhedegbaegnaaDoor
set_option linter.unusedVariables false
set_option linter.unusedSimpArgs false
open Go.ChangeShapes Go.WideShapes Go.ChangeAt Go.RowKit
open Go.ChangeMaps (open_string shut_string)

theorem PrintGav_any (g a v : ByteArray) (hg : g.size ≤ 1000000) (ha : a.size ≤ 1000000) (hv : v.size ≤ 1000000) (w : World) :
    Calls Tryd.prog 23 #[.agg #[.string g, .string a, .string v]] w fun e w' => e = .returned (.string (g ++ ⟨#[58]⟩ ++ a ++ ⟨#[58]⟩ ++ v)) ∧ Below w.heap.size w w' := by
  go_enter Tryd.func23, Tryd.ntmps23
  go_wp2
  go_ret
  exact ⟨rfl, by repeat (first | exact Below.refl _ _ | refine below_al' _ ?_ (Nat.le_refl _))⟩
theorem refPrintKey_any (g a t c : ByteArray) (hg : g.size ≤ 1000000) (ha : a.size ≤ 1000000) (ht : t.size ≤ 1000000) (hc : c.size ≤ 1000000) (w : World) :
    Calls Tryd.prog 25 #[keyV g a t c] w fun e w' => e = .returned (.string (printKey g a t c)) ∧ Below w.heap.size w w' := by
  have hemp := isEmpty_beq c
  unfold printKey keyV
  by_cases h0 : c.size = 0
  · rw [decide_eq_true h0] at hemp
    rw [if_pos h0]
    go_enter Tryd.func25, Tryd.ntmps25
    go_wp2
    go_ret
    exact ⟨rfl, by repeat (first | exact Below.refl _ _ | refine below_al' _ ?_ (Nat.le_refl _))⟩
  · rw [decide_eq_false h0] at hemp
    rw [if_neg h0]
    go_enter Tryd.func25, Tryd.ntmps25
    go_wp2
    go_ret
    exact ⟨rfl, by repeat (first | exact Below.refl _ _ | refine below_al' _ ?_ (Nat.le_refl _))⟩
def GavPost (b : Bool) (g a v : ByteArray) (w : World) (e : Ending) (w' : World) : Prop :=
  ∃ x y z : ByteArray, ∃ n : Int, e = .returned (.tuple #[.agg #[.string x, .string y, .string z], .int .i64 n]) ∧ (b = true → x = g ∧ y = a ∧ z = v ∧ n = 0) ∧ Below w.heap.size w w'
def KeyPost (b : Bool) (g a t c : ByteArray) (w : World) (e : Ending) (w' : World) : Prop :=
  ∃ x y z u : ByteArray, ∃ n : Int, e = .returned (.tuple #[.agg #[.string x, .string y, .string z, .string u], .int .i64 n]) ∧ (b = true → x = g ∧ y = a ∧ z = t ∧ u = c ∧ n = 0) ∧ Below w.heap.size w w'
theorem printGav_size (g a v : ByteArray) : (printGav g a v).size = g.size + a.size + v.size + 2 := by
  unfold printGav
  simp only [ByteArray.size_append]
  rw [show (⟨#[58]⟩ : ByteArray).size = 1 from rfl]
  omega
theorem printKey_size (g a t c : ByteArray) : (printKey g a t c).size ≤ g.size + a.size + t.size + c.size + 3 := by
  unfold printKey
  split <;> simp only [ByteArray.size_append] <;> rw [show (⟨#[58]⟩ : ByteArray).size = 1 from rfl] <;> omega
theorem ParseGav_printed (g a v : ByteArray) (hg : g.size ≤ 400) (ha : a.size ≤ 400) (hv : v.size ≤ 400) (w : World) (hm : MaxOk w) :
    Calls Tryd.prog 21 #[.string (g ++ ⟨#[58]⟩ ++ a ++ ⟨#[58]⟩ ++ v)] w (GavPost (mayGav g a v) g a v w) := by
  have hsz := printGav_size g a v
  have h := ParseGav_any (printGav g a v) (by omega) w hm
  refine h.mono fun e w' ⟨he, hb⟩ => ?_
  cases hk : mayGav g a v
  · cases hr : parseGav (printGav g a v).data.toList with
    | none => exact ⟨_, _, _, _, by rw [he, hr]; rfl, fun h => (Bool.noConfusion h), hb⟩
    | some x => exact ⟨_, _, _, _, by rw [he, hr]; rfl, fun h => (Bool.noConfusion h), hb⟩
  · exact ⟨_, _, _, _, by rw [he, gav_back g a v hk]; rfl, fun _ => ⟨rfl, rfl, rfl, rfl⟩, hb⟩
theorem ParseKey_printed (g a t c : ByteArray) (hg : g.size ≤ 400) (ha : a.size ≤ 400) (ht : t.size ≤ 400) (hc : c.size ≤ 400) (w : World) (hm : MaxOk w) :
    Calls Tryd.prog 22 #[.string (printKey g a t c)] w (KeyPost (mayKey g a t c) g a t c w) := by
  have hsz := printKey_size g a t c
  have h := ParseKey_any (printKey g a t c) (by omega) w hm
  refine h.mono fun e w' ⟨he, hb⟩ => ?_
  cases hk : mayKey g a t c
  · cases hr : parseKey (printKey g a t c).data.toList with
    | none => exact ⟨_, _, _, _, _, by rw [he, hr]; rfl, fun h => (Bool.noConfusion h), hb⟩
    | some x => exact ⟨_, _, _, _, _, by rw [he, hr]; rfl, fun h => (Bool.noConfusion h), hb⟩
  · exact ⟨_, _, _, _, _, by rw [he, key_back g a t c hk]; rfl, fun _ => ⟨rfl, rfl, rfl, rfl, rfl⟩, hb⟩

/-- cells that read so, below the heap's size -/
def Has (w : World) : List (Nat × Nat × Value) → Prop
  | [] => True
  | (b, o, v) :: l => (w.cell? ⟨b, o, none⟩ = some v ∧ b < w.heap.size) ∧ Has w l
theorem Has.below {w w' : World} (hb : Below w.heap.size w w') : ∀ {l : List (Nat × Nat × Value)}, Has w l → Has w' l
  | [], _ => trivial
  | (b, o, v) :: l, h => ⟨⟨(hb.cell (p := ⟨b, o, none⟩) h.1.2).trans h.1.1, Nat.lt_of_lt_of_le h.1.2 hb.size⟩, Has.below hb h.2⟩
/-- what the walk keeps: the arguments' cells, and that nothing older has turned -/
def Keep (w w' : World) (l : List (Nat × Nat × Value)) : Prop := Has w' l ∧ Below w.heap.size w w'
theorem Keep.below {w w' w2 : World} {l : List (Nat × Nat × Value)} (h : Keep w w' l) (hb : Below w'.heap.size w' w2) : Keep w w2 l := ⟨h.1.below hb, h.2.trans (hb.mono h.2.size)⟩
theorem keepP {w w1 w2 : World} {g a v kg ka kt kc : Value} (h : w1.cell? ⟨w.heap.size, 0, none⟩ = some g ∧ w1.cell? ⟨w.heap.size, 1, none⟩ = some a ∧ w1.cell? ⟨w.heap.size, 2, none⟩ = some v ∧ w1.cell? ⟨w.heap.size + 1, 0, none⟩ = some kg ∧ w1.cell? ⟨w.heap.size + 1, 1, none⟩ = some ka ∧ w1.cell? ⟨w.heap.size + 1, 2, none⟩ = some kt ∧ w1.cell? ⟨w.heap.size + 1, 3, none⟩ = some kc ∧ w.heap.size + 2 ≤ w1.heap.size ∧ Below w.heap.size w w1) (hb : Below w1.heap.size w1 w2) :
    w2.cell? ⟨w.heap.size, 0, none⟩ = some g ∧ w2.cell? ⟨w.heap.size, 1, none⟩ = some a ∧ w2.cell? ⟨w.heap.size, 2, none⟩ = some v ∧ w2.cell? ⟨w.heap.size + 1, 0, none⟩ = some kg ∧ w2.cell? ⟨w.heap.size + 1, 1, none⟩ = some ka ∧ w2.cell? ⟨w.heap.size + 1, 2, none⟩ = some kt ∧ w2.cell? ⟨w.heap.size + 1, 3, none⟩ = some kc ∧ w.heap.size + 2 ≤ w2.heap.size ∧ Below w.heap.size w w2 := by
  obtain ⟨h0, h1, h2, h3, h4, h5, h6, h7, h8⟩ := h
  exact ⟨below_cell hb (by simp only; omega) h0, below_cell hb (by simp only; omega) h1, below_cell hb (by simp only; omega) h2, below_cell hb (by simp only; omega) h3, below_cell hb (by simp only; omega) h4, below_cell hb (by simp only; omega) h5, below_cell hb (by simp only; omega) h6, Nat.le_trans h7 hb.size, h8.trans (hb.mono (by omega))⟩
theorem keepPB {w w1 : World} {g a v kg ka kt kc : Value} (h : w1.cell? ⟨w.heap.size, 0, none⟩ = some g ∧ w1.cell? ⟨w.heap.size, 1, none⟩ = some a ∧ w1.cell? ⟨w.heap.size, 2, none⟩ = some v ∧ w1.cell? ⟨w.heap.size + 1, 0, none⟩ = some kg ∧ w1.cell? ⟨w.heap.size + 1, 1, none⟩ = some ka ∧ w1.cell? ⟨w.heap.size + 1, 2, none⟩ = some kt ∧ w1.cell? ⟨w.heap.size + 1, 3, none⟩ = some kc ∧ w.heap.size + 2 ≤ w1.heap.size ∧ Below w.heap.size w w1) : Below w.heap.size w w1 := h.2.2.2.2.2.2.2.2

set_option maxHeartbeats 8000000 in
theorem walk_CoordPrints (g a v : ByteArray) (z0 : g.size ≤ 9223372036854775807) (z1 : a.size ≤ 9223372036854775807) (z2 : v.size ≤ 9223372036854775807) (kg ka kt kc : ByteArray) (z3 : kg.size ≤ 9223372036854775807) (z4 : ka.size ≤ 9223372036854775807) (z5 : kt.size ≤ 9223372036854775807) (z6 : kc.size ≤ 9223372036854775807) (w : World) (hm : MaxOk w) :
    Calls Tryd.prog 5 #[gavV g a v, keyV kg ka kt kc] w fun e w' => e = .returned (.bool true) ∧ Below w.heap.size w w' := by
  unfold gavV keyV
  have HM := Lib.hid hm; clear hm
  have hlives : ∀ w', Below w.heap.size w w' → Calls Tryd.prog 11 #[] w' fun e w2 => e = .returned (.bool true) ∧ Below w.heap.size w w2 := fun w' hb =>
    (lives06 w' (HM.out.below hb (Nat.le_refl _))).mono fun e w2 ⟨he, hb2⟩ => ⟨he, hb.trans (hb2.mono hb.size)⟩
  have HL := Lib.hid hlives; clear hlives
  go_enter Tryd.func5, Tryd.ntmps5
  go_wp2_with fail
  refine wp_loop_rounds 8 ?_
  rw [rounds_succ]
  go_wp2_with (go_at_call 11; refine (HL.out _ (by repeat (first | exact Below.refl _ _ | apply Below.drew | refine below_al' _ ?_ (Nat.le_refl _)))).mono ?_; rintro e w' ⟨rfl, hb⟩)
  any_goals (first | (go_ret; exact ⟨rfl, by assumption⟩) | skip)
  rw [rounds_succ]
  go_wp2_with (go_at_call 11; refine (HL.out _ (by repeat (first | exact Below.refl _ _ | apply Below.drew | refine below_al' _ ?_ (Nat.le_refl _)))).mono ?_; rintro e w' ⟨rfl, hb⟩)
  any_goals (first | (go_ret; exact ⟨rfl, by assumption⟩) | skip)
  rw [rounds_succ]
  go_wp2_with (go_at_call 11; refine (HL.out _ (by repeat (first | exact Below.refl _ _ | apply Below.drew | refine below_al' _ ?_ (Nat.le_refl _)))).mono ?_; rintro e w' ⟨rfl, hb⟩)
  any_goals (first | (go_ret; exact ⟨rfl, by assumption⟩) | skip)
  rw [rounds_succ]
  go_wp2_with (go_at_call 11; refine (HL.out _ (by repeat (first | exact Below.refl _ _ | apply Below.drew | refine below_al' _ ?_ (Nat.le_refl _)))).mono ?_; rintro e w' ⟨rfl, hb⟩)
  any_goals (first | (go_ret; exact ⟨rfl, by assumption⟩) | skip)
  rw [rounds_succ]
  go_wp2_with (go_at_call 11; refine (HL.out _ (by repeat (first | exact Below.refl _ _ | apply Below.drew | refine below_al' _ ?_ (Nat.le_refl _)))).mono ?_; rintro e w' ⟨rfl, hb⟩)
  any_goals (first | (go_ret; exact ⟨rfl, by assumption⟩) | skip)
  rw [rounds_succ]
  go_wp2_with (go_at_call 11; refine (HL.out _ (by repeat (first | exact Below.refl _ _ | apply Below.drew | refine below_al' _ ?_ (Nat.le_refl _)))).mono ?_; rintro e w' ⟨rfl, hb⟩)
  any_goals (first | (go_ret; exact ⟨rfl, by assumption⟩) | skip)
  rw [rounds_succ]
  go_wp2_with (go_at_call 11; refine (HL.out _ (by repeat (first | exact Below.refl _ _ | apply Below.drew | refine below_al' _ ?_ (Nat.le_refl _)))).mono ?_; rintro e w' ⟨rfl, hb⟩)
  any_goals (first | (go_ret; exact ⟨rfl, by assumption⟩) | skip)
  rw [rounds_succ]
  have b0 : g.size ≤ 400 := by omega
  have b1 : a.size ≤ 400 := by omega
  have b2 : v.size ≤ 400 := by omega
  have b3 : kg.size ≤ 400 := by omega
  have b4 : ka.size ≤ 400 := by omega
  have b5 : kt.size ≤ 400 := by omega
  have b6 : kc.size ≤ 400 := by omega
  have c1 := fun w => PrintGav_any g a v (by omega) (by omega) (by omega) w
  have c2 := fun w => PrintKey_any kg ka kt kc (by omega) (by omega) (by omega) (by omega) w
  have c3 := fun w => refPrintKey_any kg ka kt kc (by omega) (by omega) (by omega) (by omega) w
  have c4 := fun w => refMayGav_any g a v (by omega) (by omega) (by omega) w
  have c5 := fun w => refMayKey_any kg ka kt kc (by omega) (by omega) (by omega) (by omega) w
  have c6 := fun w => ParseGav_printed g a v b0 b1 b2 w
  have c7 := fun w => ParseKey_printed kg ka kt kc b3 b4 b5 b6 w
  have n1 : ¬ (9223372036854775807 < g.size + 1) := by omega
  have n2 : ¬ (9223372036854775807 < g.size + 1 + a.size) := by omega
  have n3 : ¬ (9223372036854775807 < g.size + 1 + a.size + 1) := by omega
  have n4 : ¬ (9223372036854775807 < g.size + 1 + a.size + 1 + v.size) := by omega
  have n0 : (⟨#[58]⟩ : ByteArray).size = 1 := rfl
  clear b0 b1 b2 b3 b4 b5 b6
  unfold keyV at c2 c3 c5
  unfold gavV at c4
  generalize mayGav g a v = i1 at c4 c6
  generalize mayKey kg ka kt kc = i2 at c5 c7
  generalize printKey kg ka kt kc = pk at c2 c3 c7
  have C1 := Lib.hid c1; clear c1
  have C2 := Lib.hid c2; clear c2
  have C3 := Lib.hid c3; clear c3
  have C4 := Lib.hid c4; clear c4
  have C5 := Lib.hid c5; clear c5
  have C6 := Lib.hid c6; clear c6
  have C7 := Lib.hid c7; clear c7
  go_wp2_with fail
  go_region_held3 (fun w' => w'.cell? ⟨w.heap.size, 0, none⟩ = some (.string g) ∧ w'.cell? ⟨w.heap.size, 1, none⟩ = some (.string a) ∧ w'.cell? ⟨w.heap.size, 2, none⟩ = some (.string v) ∧ w'.cell? ⟨w.heap.size + 1, 0, none⟩ = some (.string kg) ∧ w'.cell? ⟨w.heap.size + 1, 1, none⟩ = some (.string ka) ∧ w'.cell? ⟨w.heap.size + 1, 2, none⟩ = some (.string kt) ∧ w'.cell? ⟨w.heap.size + 1, 3, none⟩ = some (.string kc) ∧ w.heap.size + 2 ≤ w'.heap.size ∧ Below w.heap.size w w')
    (first | exact keepP (by assumption) (by assumption) | exact keepP (by assumption) (Below.refl _ _) | (refine ⟨?_, ?_, ?_, ?_, ?_, ?_, ?_, ?_, ?_⟩ <;> first | (simp [go_sem]; done) | (simp [go_sem]; omega) | (repeat (first | exact Below.refl _ _ | apply Below.drew | refine below_al' _ ?_ (Nat.le_refl _)))))
    (first
      | (go_at_call 23; with_reducible refine (C1.out _).mono ?_; rintro e w1 ⟨rfl, hb1⟩)
      | (go_at_call 24; with_reducible refine (C2.out _).mono ?_; rintro e w1 ⟨rfl, hb1⟩)
      | (go_at_call 25; with_reducible refine (C3.out _).mono ?_; rintro e w1 ⟨rfl, hb1⟩))
  rename_i HH
  have HK1 := Lib.hid HH
  clear HH
  have hz1 : w.heap.size + 2 ≤ _ := HK1.out.2.2.2.2.2.2.2.1
  obtain ⟨e0, e1, e2, e3, e4, e5, e6, -, -⟩ := HK1.out
  go_wp2_with fail
  refine (C1.out _).mono ?_
  rintro e w2 ⟨rfl, hb2⟩
  have HK2 := Lib.hid (keepP HK1.out hb2)
  have hm2 := HM.out.below (keepPB HK2.out) (Nat.le_refl _)
  have HM2 := Lib.hid hm2
  have hz2 : w.heap.size + 2 ≤ _ := HK2.out.2.2.2.2.2.2.2.1
  clear e0 e1 e2 e3 e4 e5 e6 hb2 hm2
  go_wp2_with fail
  refine (C6.out _ HM2.out).mono ?_
  rintro e w3 ⟨x, y, z, n, rfl, hx, hb3⟩
  have HX := Lib.hid hx
  have HK3 := Lib.hid (keepP HK2.out hb3)
  have hz3 : w.heap.size + 2 ≤ _ := HK3.out.2.2.2.2.2.2.2.1
  obtain ⟨e0, e1, e2, e3, e4, e5, e6, -, -⟩ := HK3.out
  clear hb3 hx
  have q0 : ¬ (w.heap.size = w3.heap.size) := by omega
  have q1 : ¬ (w.heap.size + 1 = w3.heap.size) := by omega
  have q2 : ¬ (w3.heap.size = w.heap.size) := by omega
  have q3 : ¬ (w3.heap.size = w.heap.size + 1) := by omega
  have a0 : (w3.alloc (Obj.cells #[Value.string x, Value.string y, Value.string z] 23)).cell? ⟨w.heap.size, 0, none⟩ = some (.string g) := (World.cell?_alloc_old _ _ _ (by simp only; omega)).trans e0
  have a1 : (w3.alloc (Obj.cells #[Value.string x, Value.string y, Value.string z] 23)).cell? ⟨w.heap.size, 1, none⟩ = some (.string a) := (World.cell?_alloc_old _ _ _ (by simp only; omega)).trans e1
  have a2 : (w3.alloc (Obj.cells #[Value.string x, Value.string y, Value.string z] 23)).cell? ⟨w.heap.size, 2, none⟩ = some (.string v) := (World.cell?_alloc_old _ _ _ (by simp only; omega)).trans e2
  have a3 : (w3.alloc (Obj.cells #[Value.string x, Value.string y, Value.string z] 23)).cell? ⟨w.heap.size + 1, 0, none⟩ = some (.string kg) := (World.cell?_alloc_old _ _ _ (by simp only; omega)).trans e3
  have a4 : (w3.alloc (Obj.cells #[Value.string x, Value.string y, Value.string z] 23)).cell? ⟨w.heap.size + 1, 1, none⟩ = some (.string ka) := (World.cell?_alloc_old _ _ _ (by simp only; omega)).trans e4
  have a5 : (w3.alloc (Obj.cells #[Value.string x, Value.string y, Value.string z] 23)).cell? ⟨w.heap.size + 1, 2, none⟩ = some (.string kt) := (World.cell?_alloc_old _ _ _ (by simp only; omega)).trans e5
  have a6 : (w3.alloc (Obj.cells #[Value.string x, Value.string y, Value.string z] 23)).cell? ⟨w.heap.size + 1, 3, none⟩ = some (.string kc) := (World.cell?_alloc_old _ _ _ (by simp only; omega)).trans e6
  go_wp2_with fail
  refine (C2.out _).mono ?_
  rintro e w4 ⟨rfl, hb4⟩
  have s0 := below_cell hb4 (p := ⟨w3.heap.size, 0, none⟩) (v := .string x) (by simp [go_sem]) (by simp [go_sem])
  have s1 := below_cell hb4 (p := ⟨w3.heap.size, 1, none⟩) (v := .string y) (by simp [go_sem]) (by simp [go_sem])
  have s2 := below_cell hb4 (p := ⟨w3.heap.size, 2, none⟩) (v := .string z) (by simp [go_sem]) (by simp [go_sem])
  have hz4 := hb4.size
  simp [go_sem] at hz4
  have hb34 : Below w3.heap.size w3 w4 := Below.trans (by repeat (first | exact Below.refl _ _ | refine below_al' _ ?_ (Nat.le_refl _))) (hb4.mono (by simp [go_sem]))
  have HK4 := Lib.hid (keepP HK3.out hb34)
  have hm4 := HM.out.below (keepPB HK4.out) (Nat.le_refl _)
  have HM4 := Lib.hid hm4
  clear e0 e1 e2 e3 e4 e5 e6 hb4 hm4 hb34 q0 q1 q2 q3 a0 a1 a2 a3 a4 a5 a6
  go_wp2_with fail
  refine (C7.out _ HM4.out).mono ?_
  rintro e w5 ⟨x', y', z', u', n', rfl, hx', hb5⟩
  have HX' := Lib.hid hx'
  have HK5 := Lib.hid (keepP HK4.out hb5)
  have s0' := below_cell hb5 (p := ⟨w3.heap.size, 0, none⟩) (v := .string x) (by simp only; omega) s0
  have s1' := below_cell hb5 (p := ⟨w3.heap.size, 1, none⟩) (v := .string y) (by simp only; omega) s1
  have s2' := below_cell hb5 (p := ⟨w3.heap.size, 2, none⟩) (v := .string z) (by simp only; omega) s2
  have hz5 := hb5.size
  have hz5' : w.heap.size + 2 ≤ w5.heap.size := HK5.out.2.2.2.2.2.2.2.1
  obtain ⟨e0, e1, e2, e3, e4, e5, e6, -, -⟩ := HK5.out
  clear s0 s1 s2 hb5 hx'
  have q0 : ¬ (w.heap.size = w5.heap.size) := by omega
  have q1 : ¬ (w.heap.size + 1 = w5.heap.size) := by omega
  have q2 : ¬ (w5.heap.size = w.heap.size) := by omega
  have q3 : ¬ (w5.heap.size = w.heap.size + 1) := by omega
  have q4 : ¬ (w5.heap.size = w3.heap.size) := by omega
  have q5 : ¬ (w3.heap.size = w5.heap.size) := by omega
  have a0 : (w5.alloc (Obj.cells #[Value.string x', Value.string y', Value.string z', Value.string u'] 25)).cell? ⟨w.heap.size, 0, none⟩ = some (.string g) := (World.cell?_alloc_old _ _ _ (by simp only; omega)).trans e0
  have a1 : (w5.alloc (Obj.cells #[Value.string x', Value.string y', Value.string z', Value.string u'] 25)).cell? ⟨w.heap.size, 1, none⟩ = some (.string a) := (World.cell?_alloc_old _ _ _ (by simp only; omega)).trans e1
  have a2 : (w5.alloc (Obj.cells #[Value.string x', Value.string y', Value.string z', Value.string u'] 25)).cell? ⟨w.heap.size, 2, none⟩ = some (.string v) := (World.cell?_alloc_old _ _ _ (by simp only; omega)).trans e2
  have a3 : (w5.alloc (Obj.cells #[Value.string x', Value.string y', Value.string z', Value.string u'] 25)).cell? ⟨w.heap.size + 1, 0, none⟩ = some (.string kg) := (World.cell?_alloc_old _ _ _ (by simp only; omega)).trans e3
  have a4 : (w5.alloc (Obj.cells #[Value.string x', Value.string y', Value.string z', Value.string u'] 25)).cell? ⟨w.heap.size + 1, 1, none⟩ = some (.string ka) := (World.cell?_alloc_old _ _ _ (by simp only; omega)).trans e4
  have a5 : (w5.alloc (Obj.cells #[Value.string x', Value.string y', Value.string z', Value.string u'] 25)).cell? ⟨w.heap.size + 1, 2, none⟩ = some (.string kt) := (World.cell?_alloc_old _ _ _ (by simp only; omega)).trans e5
  have a6 : (w5.alloc (Obj.cells #[Value.string x', Value.string y', Value.string z', Value.string u'] 25)).cell? ⟨w.heap.size + 1, 3, none⟩ = some (.string kc) := (World.cell?_alloc_old _ _ _ (by simp only; omega)).trans e6
  go_wp2_with fail
  refine (C4.out _).mono ?_
  rintro e w6 ⟨rfl, hb6⟩
  have t0 := below_cell hb6 (p := ⟨w5.heap.size, 0, none⟩) (v := .string x') (by simp [go_sem]) (by simp [go_sem])
  have t1 := below_cell hb6 (p := ⟨w5.heap.size, 1, none⟩) (v := .string y') (by simp [go_sem]) (by simp [go_sem])
  have t2 := below_cell hb6 (p := ⟨w5.heap.size, 2, none⟩) (v := .string z') (by simp [go_sem]) (by simp [go_sem])
  have t3 := below_cell hb6 (p := ⟨w5.heap.size, 3, none⟩) (v := .string u') (by simp [go_sem]) (by simp [go_sem])
  have hz6 := hb6.size
  simp [go_sem] at hz6
  have hb56 : Below w5.heap.size w5 w6 := Below.trans (by repeat (first | exact Below.refl _ _ | refine below_al' _ ?_ (Nat.le_refl _))) (hb6.mono (by simp [go_sem]))
  have HK6 := Lib.hid (keepP HK5.out hb56)
  have s0 := below_cell hb56 (p := ⟨w3.heap.size, 0, none⟩) (v := .string x) (by simp only; omega) s0'
  have s1 := below_cell hb56 (p := ⟨w3.heap.size, 1, none⟩) (v := .string y) (by simp only; omega) s1'
  have s2 := below_cell hb56 (p := ⟨w3.heap.size, 2, none⟩) (v := .string z) (by simp only; omega) s2'
  clear e0 e1 e2 e3 e4 e5 e6 s0' s1' s2' hb6 hb56 q0 q1 q2 q3 q4 q5 a0 a1 a2 a3 a4 a5 a6
  obtain ⟨e0, e1, e2, e3, e4, e5, e6, -, -⟩ := HK6.out
  cases i1
  case' true => obtain ⟨rfl, rfl, rfl, rfl⟩ := HX.out rfl
  all_goals
    clear HX
    go_wp2_with fail
    refine (C5.out _).mono ?_
    rintro e w7 ⟨rfl, hb7⟩
    have t0' := below_cell hb7 (p := ⟨w5.heap.size, 0, none⟩) (v := .string x') (by simp only; omega) t0
    have t1' := below_cell hb7 (p := ⟨w5.heap.size, 1, none⟩) (v := .string y') (by simp only; omega) t1
    have t2' := below_cell hb7 (p := ⟨w5.heap.size, 2, none⟩) (v := .string z') (by simp only; omega) t2
    have t3' := below_cell hb7 (p := ⟨w5.heap.size, 3, none⟩) (v := .string u') (by simp only; omega) t3
    have HK7 := Lib.hid (keepP HK6.out hb7)
    have hb7' := keepPB HK7.out
    have HL7 := HL.out _ hb7'
    have HL8 := Lib.hid HL7
    clear e0 e1 e2 e3 e4 e5 e6 t0 t1 t2 t3 s0 s1 s2 hb7 hb7' HL7
    obtain ⟨e0, e1, e2, e3, e4, e5, e6, -, -⟩ := HK7.out
    cases i2
    case' true => obtain ⟨rfl, rfl, rfl, rfl, rfl⟩ := HX'.out rfl
    all_goals
      clear HX'
      go_wp2_with fail
      refine HL8.out.mono ?_
      rintro e w8 ⟨rfl, hb8⟩
      go_wp2
      go_ret
      exact ⟨rfl, hb8⟩

theorem laid_met_CoordPrints (os : Os) : laidMet Tryd.prog Rows.coordPrintsRow.laid ((laidWorld #[.agg #[.string .empty, .string .empty, .string .empty], .agg #[.string .empty, .string .empty, .string .empty, .string .empty]] os).forCall (fun _ _ => 0) ⟨#[], #[.agg #[.string .empty, .string .empty, .string .empty], .agg #[.string .empty, .string .empty, .string .empty, .string .empty]], []⟩).memory :=
  laidMet_of_run' 8 (by kernel_rfl) (by kernel_rfl)
theorem reads_CoordPrints (os : Os) {H : Type} (enc : TypeId × Value → H) : ∃ places, DataW.whole enc Tryd.prog ((laidWorld #[.agg #[.string .empty, .string .empty, .string .empty], .agg #[.string .empty, .string .empty, .string .empty, .string .empty]] os).forCall (fun _ _ => 0) ⟨#[], #[.agg #[.string .empty, .string .empty, .string .empty], .agg #[.string .empty, .string .empty, .string .empty, .string .empty]], []⟩).memory Tryd.f5.params.toList Rows.coordPrintsSpec.vars false (#[.agg #[.string .empty, .string .empty, .string .empty], .agg #[.string .empty, .string .empty, .string .empty, .string .empty]] : Array Value).toList 8 = some ([.agg [.lit (.string []), .lit (.string []), .lit (.string [])], .agg [.lit (.string []), .lit (.string []), .lit (.string []), .lit (.string [])]], [], places) :=
  ⟨[], by kernel_rfl⟩
set_option maxRecDepth 100000 in
theorem lifted_CoordPrints (os : Os) (started : os.Started) (H : Type) (enc : TypeId × Value → H) (F : Stop.Interp) :
    ReturnsInHanded {} Tryd.checked os 5 .any ((OpenSpec.ofChange Rows.coordPrintsSpec).preRow enc Tryd.prog Tryd.f5 Rows.coordPrintsRow.domain false Rows.coordPrintsRow.laid) (((OpenSpec.ofChange Rows.coordPrintsSpec).at F).post enc Tryd.prog Tryd.f5 false true false false) := by
  obtain ⟨places, hx⟩ := reads_CoordPrints os enc
  refine returnsInHanded_of_row (C := Tryd.checked) (s := OpenSpec.ofChange Rows.coordPrintsSpec) own_knob started (by kernel_rfl) Tryd.func5
    (witness_row_at (enc := enc) (C := Tryd.checked) false (laidWorld #[.agg #[.string .empty, .string .empty, .string .empty], .agg #[.string .empty, .string .empty, .string .empty, .string .empty]] os) #[.agg #[.string .empty, .string .empty, .string .empty], .agg #[.string .empty, .string .empty, .string .empty, .string .empty]] rfl (by kernel_rfl) (by kernel_rfl) (by kernel_rfl)
      (OpenSpec.preRow_of_cond 8 hx (by kernel_rfl) (fun k hk => by cases hk) (by kernel_rfl) (laid_met_CoordPrints os))) ?_
  intro W base args ds gs before hval0 hW _ _ _ _ hsh _
  have hval : ∀ (j : Nat) t v, Tryd.f5.params[j]? = some t → args[j]? = some v → Value.okWide Tryd.prog W .any base t v := hval0
  have hm : MaxOk W := maxOk_of (maxLen_cell W hsh)
  have hW' := hW
  obtain ⟨p, q, hA0, hV, rfl, _, _⟩ := hW
  have hA : DataW.TrodAll enc Tryd.prog W 0 (fun _ => true) true Tryd.f5.params.toList args.toList ds p := hA0
  rw [Tryd.params5] at hA hval
  obtain ⟨v0, vs0, d0, ds0, p0, q0, hargs, rfl, rfl, h0, r0⟩ := trodAll_cons hA
  obtain ⟨v1, vs1, d1, ds1, p1, q1, rfl, rfl, rfl, h1, r1⟩ := trodAll_cons r0
  obtain ⟨rfl, rfl, rfl⟩ := trodAll_nil r1
  obtain rfl : args = #[v0, v1] := by cases args; simp_all
  obtain ⟨rfl, rfl⟩ := trodVars_none hV
  obtain ⟨a0_0, a0_1, a0_2, rfl, z0_0, z0_1, z0_2⟩ := open_gav (hval 0 23 v0 rfl rfl) h0
  obtain ⟨a1_0, a1_1, a1_2, a1_3, rfl, z1_0, z1_1, z1_2, z1_3⟩ := open_key (hval 1 25 v1 rfl rfl) h1
  clear hA0 hval0
  refine (walk_CoordPrints a0_0 a0_1 a0_2 z0_0 z0_1 z0_2 a1_0 a1_1 a1_2 a1_3 z1_0 z1_1 z1_2 z1_3 W hm).mono fun e W' ⟨he, hb⟩ => ?_
  subst he
  exact ⟨_, rfl, law_post (by kernel_rfl) rfl rfl rfl hW' hb⟩
theorem said_CoordPrints : Rows.CoordPrintsSaid :=
  OpenClaim.holds_of_cond 5 Tryd.f5 rfl rfl rfl rfl rfl rfl rfl ⟨rfl, rfl, rfl, rfl, rfl⟩ rfl rfl rfl rfl rfl (by kernel_rfl) Tryd.func5 (by kernel_rfl)
    (of_decide_eq_true (by kernel_rfl)) (by unfold Func.isWrapper; first | (rw [if_pos (by decide +kernel)]; kernel_rfl) | (rw [if_neg (by decide +kernel)]; exact ⟨rfl, rfl⟩))
    (fun os started H enc _ F => by rw [OpenClaim.pre_eq_preRow]; exact lifted_CoordPrints os started H enc F)
theorem plain_CoordPrints (f : FuncId) (fn : Func) (hf : Tryd.pinned.checked.prog.funcNamed "pomace/pomacelaw06.CoordPrints" = some f) (hfn : Tryd.pinned.checked.prog.funcs[f]? = some fn) :
    false = Tryd.pinned.checked.prog.looks [] ∧ ∀ (j : Nat) t, fn.params[j]? = some t → Tryd.pinned.checked.prog.wantsStandIn t = false := by
  obtain rfl : f = 5 := Option.some.inj ((show Tryd.prog.funcNamed "pomace/pomacelaw06.CoordPrints" = some 5 by kernel_rfl).symm.trans hf) |>.symm
  obtain rfl : fn = Tryd.f5 := (Option.some.inj (Tryd.func5.symm.trans hfn)).symm
  refine ⟨by kernel_rfl, fun j t ht => ?_⟩
  rw [Tryd.params5] at ht
  have h := Array.mem_of_getElem? ht
  simp only [List.mem_toArray, List.mem_cons, List.not_mem_nil, or_false] at h
  rcases h with rfl | rfl
  all_goals first
    | exact (show Tryd.prog.wantsStandIn 23 = false by kernel_rfl)
    | exact (show Tryd.prog.wantsStandIn 25 = false by kernel_rfl)

/-- the statement of CoordPrints: its card -/
theorem proved_CoordPrints : Rows.CoordPrintsCardSaid :=
  Claim7.holds_tied_plain_at .later [] _ _ _ _ said_CoordPrints (fun _ h => by cases h) (by kernel_rfl) (fun _ h => by cases h) coordPrints_row_tie rfl ⟨rfl, rfl⟩ (by kernel_rfl) rfl plain_CoordPrints (by kernel_rfl)

end Go.Proofs.YtinhedegbaegnaaDoor
