/-
  Layer 6: the card CoordParses. Own work.
-/
import Derived.Test.YtinhedegbaegnaaDoorParsed6
import Derived.Test.YtinhedegbaegnaaDoorPiece6
import Derived.Test.YtinhedegbaegnaaDoorWord6
import Derived.Test.YtinhedegbaegnaaDoorOpen6
import Derived.Deep.RegionHeld3
namespace Go.Proofs.YtinhedegbaegnaaDoor
set_option linter.unusedVariables false
set_option linter.unusedSimpArgs false
open Go.ChangeShapes Go.WideShapes Go.ChangeAt Go.RowKit
open Go.ChangeMaps (open_string shut_string)

def GavPost2 (b : Bool) (g a v : ByteArray) (w : World) (e : Ending) (w' : World) : Prop :=
  ∃ x y z : ByteArray, ∃ n : Int, e = .returned (.tuple #[.agg #[.string x, .string y, .string z], .int .i64 n]) ∧ ((b = true ∧ x = g ∧ y = a ∧ z = v ∧ n = 0) ∨ (b = false ∧ x = ⟨#[]⟩ ∧ y = ⟨#[]⟩ ∧ z = ⟨#[]⟩ ∧ n = 1)) ∧ Below w.heap.size w w'
def KeyPost2 (b : Bool) (g a t c : ByteArray) (w : World) (e : Ending) (w' : World) : Prop :=
  ∃ x y z u : ByteArray, ∃ n : Int, e = .returned (.tuple #[.agg #[.string x, .string y, .string z, .string u], .int .i64 n]) ∧ ((b = true ∧ x = g ∧ y = a ∧ z = t ∧ u = c ∧ n = 0) ∨ (b = false ∧ x = ⟨#[]⟩ ∧ y = ⟨#[]⟩ ∧ z = ⟨#[]⟩ ∧ u = ⟨#[]⟩ ∧ n = 1)) ∧ Below w.heap.size w w'
def wantGav (l : List UInt8) : ByteArray × ByteArray × ByteArray := match pcs l with
  | [g, a, v] => (str g, str a, str v)
  | _ => (⟨#[]⟩, ⟨#[]⟩, ⟨#[]⟩)
def wantKey (l : List UInt8) : ByteArray × ByteArray × ByteArray × ByteArray := match pcs l with
  | [g, a, t] => (str g, str a, str t, ⟨#[]⟩)
  | [g, a, t, c] => if c ≠ [] then (str g, str a, str t, str c) else (⟨#[]⟩, ⟨#[]⟩, ⟨#[]⟩, ⟨#[]⟩)
  | _ => (⟨#[]⟩, ⟨#[]⟩, ⟨#[]⟩, ⟨#[]⟩)
theorem mayGav_none : mayGav ⟨#[]⟩ ⟨#[]⟩ ⟨#[]⟩ = false := by kernel_rfl
theorem mayKey_none : mayKey ⟨#[]⟩ ⟨#[]⟩ ⟨#[]⟩ ⟨#[]⟩ = false := by kernel_rfl
theorem parseGav_want (l : List UInt8) : parseGav l = if mayGav (wantGav l).1 (wantGav l).2.1 (wantGav l).2.2 = true then some (wantGav l) else none := by
  unfold parseGav wantGav
  generalize pcs l = q
  rcases q with _ | ⟨g, _ | ⟨a, _ | ⟨v, _ | ⟨u, q⟩⟩⟩⟩ <;> simp [mayGav_none]
theorem parseKey_want (l : List UInt8) : parseKey l = if mayKey (wantKey l).1 (wantKey l).2.1 (wantKey l).2.2.1 (wantKey l).2.2.2 = true then some (wantKey l) else none := by
  unfold parseKey wantKey
  generalize pcs l = q
  rcases q with _ | ⟨g, _ | ⟨a, _ | ⟨t, _ | ⟨c, _ | ⟨d, q⟩⟩⟩⟩⟩
  case cons.cons.cons.cons.nil =>
    by_cases hc : c = []
    · simp [hc, mayKey_none]
    · simp [hc]
  all_goals simp [mayKey_none]
theorem ParseGav_2 (s : ByteArray) (hs : s.size ≤ 400) (g a v : ByteArray) (hw : wantGav s.data.toList = (g, a, v)) (w : World) (hm : MaxOk w) :
    Calls Tryd.prog 21 #[.string s] w (GavPost2 (mayGav g a v) g a v w) := by
  refine (ParseGav_any s (by omega) w hm).mono fun e w' ⟨he, hb⟩ => ?_
  rw [parseGav_want, hw] at he
  cases hk : mayGav g a v
  · exact ⟨_, _, _, _, by rw [he, hk]; rfl, .inr ⟨rfl, rfl, rfl, rfl, rfl⟩, hb⟩
  · exact ⟨_, _, _, _, by rw [he, hk]; rfl, .inl ⟨rfl, rfl, rfl, rfl, rfl⟩, hb⟩
theorem ParseKey_2 (s : ByteArray) (hs : s.size ≤ 400) (g a t c : ByteArray) (hw : wantKey s.data.toList = (g, a, t, c)) (w : World) (hm : MaxOk w) :
    Calls Tryd.prog 22 #[.string s] w (KeyPost2 (mayKey g a t c) g a t c w) := by
  refine (ParseKey_any s (by omega) w hm).mono fun e w' ⟨he, hb⟩ => ?_
  rw [parseKey_want, hw] at he
  cases hk : mayKey g a t c
  · exact ⟨_, _, _, _, _, by rw [he, hk]; rfl, .inr ⟨rfl, rfl, rfl, rfl, rfl, rfl⟩, hb⟩
  · exact ⟨_, _, _, _, _, by rw [he, hk]; rfl, .inl ⟨rfl, rfl, rfl, rfl, rfl, rfl⟩, hb⟩

theorem two_blocks (w : World) (x y z x' y' z' : Value) (T U : TypeId) : ((w.alloc (.cells #[x, y, z] T)).alloc (.cells #[x', y', z'] U)).cell? ⟨w.heap.size, 0, none⟩ = some x ∧
    ((w.alloc (.cells #[x, y, z] T)).alloc (.cells #[x', y', z'] U)).cell? ⟨w.heap.size, 1, none⟩ = some y ∧ ((w.alloc (.cells #[x, y, z] T)).alloc (.cells #[x', y', z'] U)).cell? ⟨w.heap.size, 2, none⟩ = some z ∧
    ((w.alloc (.cells #[x, y, z] T)).alloc (.cells #[x', y', z'] U)).cell? ⟨w.heap.size + 1, 0, none⟩ = some x' ∧ ((w.alloc (.cells #[x, y, z] T)).alloc (.cells #[x', y', z'] U)).cell? ⟨w.heap.size + 1, 1, none⟩ = some y' ∧
    ((w.alloc (.cells #[x, y, z] T)).alloc (.cells #[x', y', z'] U)).cell? ⟨w.heap.size + 1, 2, none⟩ = some z' ∧
    ((w.alloc (.cells #[x, y, z] T)).alloc (.cells #[x', y', z'] U)).frozen? ⟨w.heap.size + 1, 0, none⟩ = false ∧ ((w.alloc (.cells #[x, y, z] T)).alloc (.cells #[x', y', z'] U)).frozen? ⟨w.heap.size + 1, 1, none⟩ = false ∧
    ((w.alloc (.cells #[x, y, z] T)).alloc (.cells #[x', y', z'] U)).frozen? ⟨w.heap.size + 1, 2, none⟩ = false ∧ ((w.alloc (.cells #[x, y, z] T)).alloc (.cells #[x', y', z'] U)).heap.size = w.heap.size + 2 ∧
    Below w.heap.size w ((w.alloc (.cells #[x, y, z] T)).alloc (.cells #[x', y', z'] U)) ∧
    ∀ b o, b < w.heap.size → ((w.alloc (.cells #[x, y, z] T)).alloc (.cells #[x', y', z'] U)).cell? ⟨b, o, none⟩ = w.cell? ⟨b, o, none⟩ := by
  have hb : Below w.heap.size w ((w.alloc (.cells #[x, y, z] T)).alloc (.cells #[x', y', z'] U)) := by repeat (first | exact Below.refl _ _ | refine below_al' _ ?_ (Nat.le_refl _))
  refine ⟨?_, ?_, ?_, ?_, ?_, ?_, ?_, ?_, ?_, ?_, hb, fun b o h => hb.cell (p := ⟨b, o, none⟩) h⟩ <;> simp [go_sem]

theorem lives_at (w w7 : World) (hm : MaxOk w) (hb : Below w.heap.size w w7) : Calls Tryd.prog 11 #[] w7 fun e w2 => e = .returned (.bool true) ∧ Below w.heap.size w w2 :=
  (lives06 w7 (hm.below hb (Nat.le_refl _))).mono fun e w2 ⟨he, hb2⟩ => ⟨he, hb.trans (hb2.mono hb.size)⟩
theorem keepS3 {w : World} {B b : Nat} (h : b ≠ B) (x0 x1 x2 : Value) (o : Nat) : (((w.setCell ⟨B, 0, none⟩ x0).setCell ⟨B, 1, none⟩ x1).setCell ⟨B, 2, none⟩ x2).drew.cell? ⟨b, o, none⟩ = w.cell? ⟨b, o, none⟩ := by
  simp [go_sem, World.cell?_setCell_other, h]
theorem sizeS3 {w : World} {B : Nat} (x0 x1 x2 : Value) : (((w.setCell ⟨B, 0, none⟩ x0).setCell ⟨B, 1, none⟩ x1).setCell ⟨B, 2, none⟩ x2).drew.heap.size = w.heap.size := by
  simp [go_sem]
theorem belowS3 {w : World} {B A : Nat} (h : A ≤ B) (x0 x1 x2 : Value) : Below A w (((w.setCell ⟨B, 0, none⟩ x0).setCell ⟨B, 1, none⟩ x1).setCell ⟨B, 2, none⟩ x2).drew := by
  refine Below.drew ?_
  exact (((Below.refl _ _).setCell (p := ⟨B, 0, none⟩) h _).setCell (p := ⟨B, 1, none⟩) h _).setCell (p := ⟨B, 2, none⟩) h _
theorem putS3_0 {w : World} {B : Nat} (e0 e1 e2 x0 x1 x2 : Value) (h0 : w.cell? ⟨B, 0, none⟩ = some e0) (h1 : w.cell? ⟨B, 1, none⟩ = some e1) (h2 : w.cell? ⟨B, 2, none⟩ = some e2) : (((w.setCell ⟨B, 0, none⟩ x0).setCell ⟨B, 1, none⟩ x1).setCell ⟨B, 2, none⟩ x2).drew.cell? ⟨B, 0, none⟩ = some x0 := by
  simp [go_sem, World.cell?_setCell_other, *]
theorem putS3_1 {w : World} {B : Nat} (e0 e1 e2 x0 x1 x2 : Value) (h0 : w.cell? ⟨B, 0, none⟩ = some e0) (h1 : w.cell? ⟨B, 1, none⟩ = some e1) (h2 : w.cell? ⟨B, 2, none⟩ = some e2) : (((w.setCell ⟨B, 0, none⟩ x0).setCell ⟨B, 1, none⟩ x1).setCell ⟨B, 2, none⟩ x2).drew.cell? ⟨B, 1, none⟩ = some x1 := by
  simp [go_sem, World.cell?_setCell_other, *]
theorem putS3_2 {w : World} {B : Nat} (e0 e1 e2 x0 x1 x2 : Value) (h0 : w.cell? ⟨B, 0, none⟩ = some e0) (h1 : w.cell? ⟨B, 1, none⟩ = some e1) (h2 : w.cell? ⟨B, 2, none⟩ = some e2) : (((w.setCell ⟨B, 0, none⟩ x0).setCell ⟨B, 1, none⟩ x1).setCell ⟨B, 2, none⟩ x2).drew.cell? ⟨B, 2, none⟩ = some x2 := by
  simp [go_sem, World.cell?_setCell_other, *]
theorem frzS3_0 {w : World} {B b o : Nat} (x0 x1 x2 : Value) (h : w.frozen? ⟨b, o, none⟩ = false) : (((w.setCell ⟨B, 0, none⟩ x0).setCell ⟨B, 1, none⟩ x1).setCell ⟨B, 2, none⟩ x2).drew.frozen? ⟨b, o, none⟩ = false := by
  simp [go_sem, *]
theorem keepS4 {w : World} {B b : Nat} (h : b ≠ B) (x0 x1 x2 x3 : Value) (o : Nat) : ((((w.setCell ⟨B, 0, none⟩ x0).setCell ⟨B, 1, none⟩ x1).setCell ⟨B, 2, none⟩ x2).setCell ⟨B, 3, none⟩ x3).drew.cell? ⟨b, o, none⟩ = w.cell? ⟨b, o, none⟩ := by
  simp [go_sem, World.cell?_setCell_other, h]
theorem sizeS4 {w : World} {B : Nat} (x0 x1 x2 x3 : Value) : ((((w.setCell ⟨B, 0, none⟩ x0).setCell ⟨B, 1, none⟩ x1).setCell ⟨B, 2, none⟩ x2).setCell ⟨B, 3, none⟩ x3).drew.heap.size = w.heap.size := by
  simp [go_sem]
theorem belowS4 {w : World} {B A : Nat} (h : A ≤ B) (x0 x1 x2 x3 : Value) : Below A w ((((w.setCell ⟨B, 0, none⟩ x0).setCell ⟨B, 1, none⟩ x1).setCell ⟨B, 2, none⟩ x2).setCell ⟨B, 3, none⟩ x3).drew := by
  refine Below.drew ?_
  exact ((((Below.refl _ _).setCell (p := ⟨B, 0, none⟩) h _).setCell (p := ⟨B, 1, none⟩) h _).setCell (p := ⟨B, 2, none⟩) h _).setCell (p := ⟨B, 3, none⟩) h _
theorem putS4_0 {w : World} {B : Nat} (e0 e1 e2 e3 x0 x1 x2 x3 : Value) (h0 : w.cell? ⟨B, 0, none⟩ = some e0) (h1 : w.cell? ⟨B, 1, none⟩ = some e1) (h2 : w.cell? ⟨B, 2, none⟩ = some e2) (h3 : w.cell? ⟨B, 3, none⟩ = some e3) : ((((w.setCell ⟨B, 0, none⟩ x0).setCell ⟨B, 1, none⟩ x1).setCell ⟨B, 2, none⟩ x2).setCell ⟨B, 3, none⟩ x3).drew.cell? ⟨B, 0, none⟩ = some x0 := by
  simp [go_sem, World.cell?_setCell_other, *]
theorem putS4_1 {w : World} {B : Nat} (e0 e1 e2 e3 x0 x1 x2 x3 : Value) (h0 : w.cell? ⟨B, 0, none⟩ = some e0) (h1 : w.cell? ⟨B, 1, none⟩ = some e1) (h2 : w.cell? ⟨B, 2, none⟩ = some e2) (h3 : w.cell? ⟨B, 3, none⟩ = some e3) : ((((w.setCell ⟨B, 0, none⟩ x0).setCell ⟨B, 1, none⟩ x1).setCell ⟨B, 2, none⟩ x2).setCell ⟨B, 3, none⟩ x3).drew.cell? ⟨B, 1, none⟩ = some x1 := by
  simp [go_sem, World.cell?_setCell_other, *]
theorem putS4_2 {w : World} {B : Nat} (e0 e1 e2 e3 x0 x1 x2 x3 : Value) (h0 : w.cell? ⟨B, 0, none⟩ = some e0) (h1 : w.cell? ⟨B, 1, none⟩ = some e1) (h2 : w.cell? ⟨B, 2, none⟩ = some e2) (h3 : w.cell? ⟨B, 3, none⟩ = some e3) : ((((w.setCell ⟨B, 0, none⟩ x0).setCell ⟨B, 1, none⟩ x1).setCell ⟨B, 2, none⟩ x2).setCell ⟨B, 3, none⟩ x3).drew.cell? ⟨B, 2, none⟩ = some x2 := by
  simp [go_sem, World.cell?_setCell_other, *]
theorem putS4_3 {w : World} {B : Nat} (e0 e1 e2 e3 x0 x1 x2 x3 : Value) (h0 : w.cell? ⟨B, 0, none⟩ = some e0) (h1 : w.cell? ⟨B, 1, none⟩ = some e1) (h2 : w.cell? ⟨B, 2, none⟩ = some e2) (h3 : w.cell? ⟨B, 3, none⟩ = some e3) : ((((w.setCell ⟨B, 0, none⟩ x0).setCell ⟨B, 1, none⟩ x1).setCell ⟨B, 2, none⟩ x2).setCell ⟨B, 3, none⟩ x3).drew.cell? ⟨B, 3, none⟩ = some x3 := by
  simp [go_sem, World.cell?_setCell_other, *]
theorem frzS4_0 {w : World} {B b o : Nat} (x0 x1 x2 x3 : Value) (h : w.frozen? ⟨b, o, none⟩ = false) : ((((w.setCell ⟨B, 0, none⟩ x0).setCell ⟨B, 1, none⟩ x1).setCell ⟨B, 2, none⟩ x2).setCell ⟨B, 3, none⟩ x3).drew.frozen? ⟨b, o, none⟩ = false := by
  simp [go_sem, *]
theorem blocks4 (w : World) (x0 x1 x2 x3 y0 y1 y2 y3 : Value) (T U : TypeId) : ((w.alloc (.cells #[x0, x1, x2, x3] T)).alloc (.cells #[y0, y1, y2, y3] U)).cell? ⟨w.heap.size, 0, none⟩ = some x0 ∧ ((w.alloc (.cells #[x0, x1, x2, x3] T)).alloc (.cells #[y0, y1, y2, y3] U)).cell? ⟨w.heap.size, 1, none⟩ = some x1 ∧ ((w.alloc (.cells #[x0, x1, x2, x3] T)).alloc (.cells #[y0, y1, y2, y3] U)).cell? ⟨w.heap.size, 2, none⟩ = some x2 ∧ ((w.alloc (.cells #[x0, x1, x2, x3] T)).alloc (.cells #[y0, y1, y2, y3] U)).cell? ⟨w.heap.size, 3, none⟩ = some x3 ∧ ((w.alloc (.cells #[x0, x1, x2, x3] T)).alloc (.cells #[y0, y1, y2, y3] U)).cell? ⟨w.heap.size + 1, 0, none⟩ = some y0 ∧ ((w.alloc (.cells #[x0, x1, x2, x3] T)).alloc (.cells #[y0, y1, y2, y3] U)).cell? ⟨w.heap.size + 1, 1, none⟩ = some y1 ∧ ((w.alloc (.cells #[x0, x1, x2, x3] T)).alloc (.cells #[y0, y1, y2, y3] U)).cell? ⟨w.heap.size + 1, 2, none⟩ = some y2 ∧ ((w.alloc (.cells #[x0, x1, x2, x3] T)).alloc (.cells #[y0, y1, y2, y3] U)).cell? ⟨w.heap.size + 1, 3, none⟩ = some y3 ∧ ((w.alloc (.cells #[x0, x1, x2, x3] T)).alloc (.cells #[y0, y1, y2, y3] U)).frozen? ⟨w.heap.size + 1, 0, none⟩ = false ∧ ((w.alloc (.cells #[x0, x1, x2, x3] T)).alloc (.cells #[y0, y1, y2, y3] U)).frozen? ⟨w.heap.size + 1, 1, none⟩ = false ∧ ((w.alloc (.cells #[x0, x1, x2, x3] T)).alloc (.cells #[y0, y1, y2, y3] U)).frozen? ⟨w.heap.size + 1, 2, none⟩ = false ∧ ((w.alloc (.cells #[x0, x1, x2, x3] T)).alloc (.cells #[y0, y1, y2, y3] U)).frozen? ⟨w.heap.size + 1, 3, none⟩ = false ∧ ((w.alloc (.cells #[x0, x1, x2, x3] T)).alloc (.cells #[y0, y1, y2, y3] U)).heap.size = w.heap.size + 2 ∧ Below w.heap.size w ((w.alloc (.cells #[x0, x1, x2, x3] T)).alloc (.cells #[y0, y1, y2, y3] U)) ∧ ∀ b o, b < w.heap.size → ((w.alloc (.cells #[x0, x1, x2, x3] T)).alloc (.cells #[y0, y1, y2, y3] U)).cell? ⟨b, o, none⟩ = w.cell? ⟨b, o, none⟩ := by
  have hb : Below w.heap.size w ((w.alloc (.cells #[x0, x1, x2, x3] T)).alloc (.cells #[y0, y1, y2, y3] U)) := by repeat (first | exact Below.refl _ _ | refine below_al' _ ?_ (Nat.le_refl _))
  refine ⟨?_, ?_, ?_, ?_, ?_, ?_, ?_, ?_, ?_, ?_, ?_, ?_, ?_, hb, fun b o h => hb.cell (p := ⟨b, o, none⟩) h⟩ <;> simp [go_sem]

set_option maxHeartbeats 8000000 in
theorem parses_A (s t : ByteArray) (ht : t.size ≤ 400) (p0 p1 p2 : List UInt8) (hp : pcs t.data.toList = [p0, p1, p2]) (hs : s.size ≤ 9223372036854775807)
    (hcut : ∀ w, Calls Tryd.prog 19 #[.string s] w fun e w' => e = .returned (.string t) ∧ w = w') (w : World) (hm : MaxOk w) :
    Calls Tryd.prog 4 #[.string s] w fun e w' => e = .returned (.bool true) ∧ Below w.heap.size w w' := by
  have hsz : t.data.toList.length = t.size := by simp
  have hle := pcs_len_le t.data.toList
  rw [hp] at hle
  have hwg : wantGav t.data.toList = (str p0, str p1, str p2) := by unfold wantGav; rw [hp]
  have hwk : wantKey t.data.toList = (str p0, str p1, str p2, ⟨#[]⟩) := by unfold wantKey; rw [hp]
  have l0 := hle p0 (by simp)
  have l1 := hle p1 (by simp)
  have l2 := hle p2 (by simp)
  have c1 := fun w => Pieces_any t ht w
  have c2 := fun w => ParseGav_2 t ht (str p0) (str p1) (str p2) hwg w
  have c3 := fun w => ParseKey_2 t ht (str p0) (str p1) (str p2) (⟨#[]⟩) hwk w
  have c4 := fun w => refMayGav_any (str p0) (str p1) (str p2) (by rw [size_str]; omega) (by rw [size_str]; omega) (by rw [size_str]; omega) w
  have c5 := fun w => refMayKey_any (str p0) (str p1) (str p2) (⟨#[]⟩) (by rw [size_str]; omega) (by rw [size_str]; omega) (by rw [size_str]; omega) (by decide) w
  unfold gavV at c4
  unfold keyV at c5
  clear hle hwg hwk hsz l0 l1 l2
  generalize hG : mayGav (str p0) (str p1) (str p2) = i1 at c2 c4
  generalize hK : mayKey (str p0) (str p1) (str p2) (⟨#[]⟩) = i2 at c3 c5
  have C1 := Lib.hid c1; clear c1
  have C2 := Lib.hid c2; clear c2
  have C3 := Lib.hid c3; clear c3
  have C4 := Lib.hid c4; clear c4
  have C5 := Lib.hid c5; clear c5
  have HP := Lib.hid hp; clear hp
  have HG := Lib.hid hG; clear hG
  have HKK := Lib.hid hK; clear hK
  have HCUT := Lib.hid hcut; clear hcut
  have HM := Lib.hid hm; clear hm
  go_enter Tryd.func4, Tryd.ntmps4
  go_wp2_with fail
  refine (HCUT.out _).mono ?_
  rintro e w' ⟨rfl, rfl⟩
  go_wp2_with fail
  refine (C1.out _).mono ?_
  rintro e w1 ⟨v, rfl, hsl, hb1⟩
  rw [HP.out] at hsl
  obtain ⟨sa, cap, rfl, hl1, hl2, hcl⟩ := hsl
  obtain ⟨b, off, rfl, hlt, r0⟩ := hcl 0 p0 rfl
  have r1 : w1.cell? ⟨b, off + 1, none⟩ = some (strV p1) := by
    obtain ⟨b2, off2, h2, _, h⟩ := hcl 1 p1 rfl
    cases h2; exact h
  have r2 : w1.cell? ⟨b, off + 2, none⟩ = some (strV p2) := by
    obtain ⟨b2, off2, h2, _, h⟩ := hcl 2 p2 rfl
    cases h2; exact h
  unfold strV at r0 r1 r2
  rw [Nat.add_zero] at r0
  clear hcl
  have hm1 := HM.out.below hb1 (Nat.le_refl _)
  have HM1 := Lib.hid hm1
  have HB1 := Lib.hid hb1
  clear hm1 hb1
  go_wp2_with fail
  refine (C2.out _ HM1.out).mono ?_
  rintro e w2 ⟨x, y, z, n, rfl, hx, hb2⟩
  have s0 := below_cell hb2 (p := ⟨b, off, none⟩) (by simp only; omega) r0
  have s1 := below_cell hb2 (p := ⟨b, off + 1, none⟩) (by simp only; omega) r1
  have s2 := below_cell hb2 (p := ⟨b, off + 2, none⟩) (by simp only; omega) r2
  clear r0 r1 r2
  have hz2 := hb2.size
  have HB2 := Lib.hid (HB1.out.trans (hb2.mono HB1.out.size))
  clear hb2
  have HX := Lib.hid hx; clear hx
  have hF := two_blocks w2 (.string x) (.string y) (.string z) (.string ⟨#[]⟩) (.string ⟨#[]⟩) (.string ⟨#[]⟩) 23 23
  go_wp2_with fail
  generalize (w2.alloc (Obj.cells #[Value.string x, Value.string y, Value.string z] 23)).alloc (Obj.cells #[Value.string { data := #[] }, Value.string { data := #[] }, Value.string { data := #[] }] 23) = w3 at hF ⊢
  obtain ⟨hF0, hF1, hF2, hE0, hE1, hE2, hN0, hN1, hN2, hz3, hb3, ho3⟩ := hF
  have HB3 := Lib.hid (HB2.out.trans (hb3.mono HB2.out.size))
  have r0 := (ho3 b (off) (by omega)).trans s0
  have r1 := (ho3 b (off + 1) (by omega)).trans s1
  have r2 := (ho3 b (off + 2) (by omega)).trans s2
  clear ho3 hb3 s0 s1 s2
  have hbn2 : b ≠ w2.heap.size + 1 := by omega
  go_region_held3 (fun w' => w'.cell? ⟨b, off, none⟩ = some (.string (str p0)) ∧ w'.cell? ⟨b, off + 1, none⟩ = some (.string (str p1)) ∧ w'.cell? ⟨b, off + 2, none⟩ = some (.string (str p2))) (first | (refine ⟨?_, ?_, ?_⟩ <;> with_reducible exact (keepS3 hbn2 _ _ _ _).trans (by assumption)) | go_keep) (fail)
  rename_i hHeld
  clear hHeld
  go_wp2_with fail
  refine (C4.out _).mono ?_
  rintro e w4 ⟨rfl, hb4⟩
  have g0 := below_cell hb4 (p := ⟨w2.heap.size, 0, none⟩) (by rw [sizeS3]; simp only; omega) ((keepS3 (show w2.heap.size ≠ w2.heap.size + 1 by omega) _ _ _ _).trans hF0)
  have g1 := below_cell hb4 (p := ⟨w2.heap.size, 1, none⟩) (by rw [sizeS3]; simp only; omega) ((keepS3 (show w2.heap.size ≠ w2.heap.size + 1 by omega) _ _ _ _).trans hF1)
  have g2 := below_cell hb4 (p := ⟨w2.heap.size, 2, none⟩) (by rw [sizeS3]; simp only; omega) ((keepS3 (show w2.heap.size ≠ w2.heap.size + 1 by omega) _ _ _ _).trans hF2)
  have k0 := below_cell hb4 (p := ⟨w2.heap.size + 1, 0, none⟩) (by rw [sizeS3]; simp only; omega) (putS3_0 _ _ _ _ _ _ hE0 hE1 hE2)
  have k1 := below_cell hb4 (p := ⟨w2.heap.size + 1, 1, none⟩) (by rw [sizeS3]; simp only; omega) (putS3_1 _ _ _ _ _ _ hE0 hE1 hE2)
  have k2 := below_cell hb4 (p := ⟨w2.heap.size + 1, 2, none⟩) (by rw [sizeS3]; simp only; omega) (putS3_2 _ _ _ _ _ _ hE0 hE1 hE2)
  have s0 := below_cell hb4 (p := ⟨b, off, none⟩) (by rw [sizeS3]; simp only; omega) ((keepS3 (show b ≠ w2.heap.size + 1 by omega) _ _ _ _).trans r0)
  have s1 := below_cell hb4 (p := ⟨b, off + 1, none⟩) (by rw [sizeS3]; simp only; omega) ((keepS3 (show b ≠ w2.heap.size + 1 by omega) _ _ _ _).trans r1)
  have s2 := below_cell hb4 (p := ⟨b, off + 2, none⟩) (by rw [sizeS3]; simp only; omega) ((keepS3 (show b ≠ w2.heap.size + 1 by omega) _ _ _ _).trans r2)
  have hz4 := hb4.size
  rw [sizeS3] at hz4
  have HB4 := Lib.hid (HB3.out.trans ((belowS3 (show w.heap.size ≤ w2.heap.size + 1 by have := HB2.out.size; omega) _ _ _).trans (hb4.mono (by rw [sizeS3]; exact HB3.out.size))))
  clear hb4 hF0 hF1 hF2 hE0 hE1 hE2 hN0 hN1 hN2 r0 r1 r2
  have HM4 := Lib.hid (HM.out.below HB4.out (Nat.le_refl _))
  rcases HX.out with ⟨rfl, rfl, rfl, rfl, rfl⟩ | ⟨rfl, rfl, rfl, rfl, rfl⟩
  all_goals
    clear HX
    go_wp2_with fail
    refine (C3.out _ HM4.out).mono ?_
    rintro e w5 ⟨x', y', z', u', m, rfl, hy, hb5⟩
    have HY := Lib.hid hy; clear hy
    have r0 := below_cell hb5 (p := ⟨b, off, none⟩) (by simp only; omega) s0
    have r1 := below_cell hb5 (p := ⟨b, off + 1, none⟩) (by simp only; omega) s1
    have r2 := below_cell hb5 (p := ⟨b, off + 2, none⟩) (by simp only; omega) s2
    have hz5 := hb5.size
    have HB5 := Lib.hid (HB4.out.trans (hb5.mono HB4.out.size))
    clear hb5 g0 g1 g2 k0 k1 k2 s0 s1 s2
    have hF := blocks4 w5 (.string x') (.string y') (.string z') (.string u') (.string ⟨#[]⟩) (.string ⟨#[]⟩) (.string ⟨#[]⟩) (.string ⟨#[]⟩) 25 25
    have o0 := (hF.2.2.2.2.2.2.2.2.2.2.2.2.2.2 b (off) (by omega)).trans r0
    have o1 := (hF.2.2.2.2.2.2.2.2.2.2.2.2.2.2 b (off + 1) (by omega)).trans r1
    have o2 := (hF.2.2.2.2.2.2.2.2.2.2.2.2.2.2 b (off + 2) (by omega)).trans r2
    go_wp2_with fail
    generalize ((w5.alloc (Obj.cells #[Value.string x', Value.string y', Value.string z', Value.string u'] 25)).alloc (Obj.cells #[Value.string { data := #[] }, Value.string { data := #[] }, Value.string { data := #[] }, Value.string { data := #[] }] 25)) = w6 at hF o0 o1 o2 ⊢
    obtain ⟨hF0, hF1, hF2, hF3, hE0, hE1, hE2, hE3, hN0, hN1, hN2, hN3, hz6, hb6, -⟩ := hF
    have HB6 := Lib.hid (HB5.out.trans (hb6.mono HB5.out.size))
    clear hb6 r0 r1 r2
    have hbn5 : b ≠ w5.heap.size + 1 := by omega
    go_region_held3 (fun w' => w'.cell? ⟨b, off, none⟩ = some (.string (str p0)) ∧ w'.cell? ⟨b, off + 1, none⟩ = some (.string (str p1)) ∧ w'.cell? ⟨b, off + 2, none⟩ = some (.string (str p2))) (first | (refine ⟨?_, ?_, ?_⟩ <;> with_reducible exact (keepS4 hbn5 _ _ _ _ _).trans (by assumption)) | go_keep) (fail)
    rename_i hHeld
    clear hHeld
    go_wp2_with fail
    refine (C5.out _).mono ?_
    rintro e w7 ⟨rfl, hb7⟩
    have g0 := below_cell hb7 (p := ⟨w5.heap.size, 0, none⟩) (by first | (rw [sizeS4]; simp only; omega) | (simp [go_sem]; omega) | (simp only; omega)) ((keepS4 (show w5.heap.size ≠ w5.heap.size + 1 by omega) (.string (str p0)) (.string (str p1)) (.string (str p2)) (.string ⟨#[]⟩) 0).trans hF0)
    have k0 := below_cell hb7 (p := ⟨w5.heap.size + 1, 0, none⟩) (by first | (rw [sizeS4]; simp only; omega) | (simp [go_sem]; omega) | (simp only; omega)) (putS4_0 _ _ _ _ (.string (str p0)) (.string (str p1)) (.string (str p2)) (.string ⟨#[]⟩) hE0 hE1 hE2 hE3)
    have g1 := below_cell hb7 (p := ⟨w5.heap.size, 1, none⟩) (by first | (rw [sizeS4]; simp only; omega) | (simp [go_sem]; omega) | (simp only; omega)) ((keepS4 (show w5.heap.size ≠ w5.heap.size + 1 by omega) (.string (str p0)) (.string (str p1)) (.string (str p2)) (.string ⟨#[]⟩) 1).trans hF1)
    have k1 := below_cell hb7 (p := ⟨w5.heap.size + 1, 1, none⟩) (by first | (rw [sizeS4]; simp only; omega) | (simp [go_sem]; omega) | (simp only; omega)) (putS4_1 _ _ _ _ (.string (str p0)) (.string (str p1)) (.string (str p2)) (.string ⟨#[]⟩) hE0 hE1 hE2 hE3)
    have g2 := below_cell hb7 (p := ⟨w5.heap.size, 2, none⟩) (by first | (rw [sizeS4]; simp only; omega) | (simp [go_sem]; omega) | (simp only; omega)) ((keepS4 (show w5.heap.size ≠ w5.heap.size + 1 by omega) (.string (str p0)) (.string (str p1)) (.string (str p2)) (.string ⟨#[]⟩) 2).trans hF2)
    have k2 := below_cell hb7 (p := ⟨w5.heap.size + 1, 2, none⟩) (by first | (rw [sizeS4]; simp only; omega) | (simp [go_sem]; omega) | (simp only; omega)) (putS4_2 _ _ _ _ (.string (str p0)) (.string (str p1)) (.string (str p2)) (.string ⟨#[]⟩) hE0 hE1 hE2 hE3)
    have g3 := below_cell hb7 (p := ⟨w5.heap.size, 3, none⟩) (by first | (rw [sizeS4]; simp only; omega) | (simp [go_sem]; omega) | (simp only; omega)) ((keepS4 (show w5.heap.size ≠ w5.heap.size + 1 by omega) (.string (str p0)) (.string (str p1)) (.string (str p2)) (.string ⟨#[]⟩) 3).trans hF3)
    have k3 := below_cell hb7 (p := ⟨w5.heap.size + 1, 3, none⟩) (by first | (rw [sizeS4]; simp only; omega) | (simp [go_sem]; omega) | (simp only; omega)) (putS4_3 _ _ _ _ (.string (str p0)) (.string (str p1)) (.string (str p2)) (.string ⟨#[]⟩) hE0 hE1 hE2 hE3)
    have hw5 := HB5.out.size
    have HB7 := HB6.out.trans ((belowS4 (show w.heap.size ≤ w5.heap.size + 1 by omega) (.string (str p0)) (.string (str p1)) (.string (str p2)) (.string ⟨#[]⟩)).trans (hb7.mono (by rw [sizeS4]; exact HB6.out.size)))
    have HL := Lib.hid (lives_at w w7 HM.out HB7)
    clear hb7 HB7 hF0 hF1 hF2 hF3 hE0 hE1 hE2 hE3 hN0 hN1 hN2 hN3 o0 o1 o2
    rcases HY.out with ⟨rfl, rfl, rfl, rfl, rfl, rfl⟩ | ⟨rfl, rfl, rfl, rfl, rfl, rfl⟩
    all_goals
      clear HY
      go_wp2_with fail
      refine HL.out.mono ?_
      rintro e w8 ⟨rfl, hb8⟩
      go_wp2
      go_ret
      exact ⟨rfl, hb8⟩

set_option maxHeartbeats 8000000 in
theorem parses_B (s t : ByteArray) (ht : t.size ≤ 400) (p0 p1 p2 p3 : List UInt8) (hc : p3 ≠ []) (hp : pcs t.data.toList = [p0, p1, p2, p3]) (hs : s.size ≤ 9223372036854775807)
    (hcut : ∀ w, Calls Tryd.prog 19 #[.string s] w fun e w' => e = .returned (.string t) ∧ w = w') (w : World) (hm : MaxOk w) :
    Calls Tryd.prog 4 #[.string s] w fun e w' => e = .returned (.bool true) ∧ Below w.heap.size w w' := by
  have hsz : t.data.toList.length = t.size := by simp
  have hle := pcs_len_le t.data.toList
  rw [hp] at hle
  have hwg : wantGav t.data.toList = (⟨#[]⟩, ⟨#[]⟩, ⟨#[]⟩) := by unfold wantGav; rw [hp]
  have hwk : wantKey t.data.toList = (str p0, str p1, str p2, str p3) := by unfold wantKey; rw [hp]; simp [hc]
  have l0 := hle p0 (by simp)
  have l1 := hle p1 (by simp)
  have l2 := hle p2 (by simp)
  have l3 := hle p3 (by simp)
  have c1 := fun w => Pieces_any t ht w
  have c2 := fun w => ParseGav_2 t ht (⟨#[]⟩) (⟨#[]⟩) (⟨#[]⟩) hwg w
  have c3 := fun w => ParseKey_2 t ht (str p0) (str p1) (str p2) (str p3) hwk w
  have c4 := fun w => refMayGav_any (⟨#[]⟩) (⟨#[]⟩) (⟨#[]⟩) (by decide) (by decide) (by decide) w
  have c5 := fun w => refMayKey_any (str p0) (str p1) (str p2) (str p3) (by rw [size_str]; omega) (by rw [size_str]; omega) (by rw [size_str]; omega) (by rw [size_str]; omega) w
  unfold gavV at c4
  unfold keyV at c5
  clear hle hwg hwk hsz l0 l1 l2 l3
  generalize hG : mayGav (⟨#[]⟩) (⟨#[]⟩) (⟨#[]⟩) = i1 at c2 c4
  generalize hK : mayKey (str p0) (str p1) (str p2) (str p3) = i2 at c3 c5
  have C1 := Lib.hid c1; clear c1
  have C2 := Lib.hid c2; clear c2
  have C3 := Lib.hid c3; clear c3
  have C4 := Lib.hid c4; clear c4
  have C5 := Lib.hid c5; clear c5
  have HP := Lib.hid hp; clear hp
  have HG := Lib.hid hG; clear hG
  have HKK := Lib.hid hK; clear hK
  have HCUT := Lib.hid hcut; clear hcut
  have HM := Lib.hid hm; clear hm
  go_enter Tryd.func4, Tryd.ntmps4
  go_wp2_with fail
  refine (HCUT.out _).mono ?_
  rintro e w' ⟨rfl, rfl⟩
  go_wp2_with fail
  refine (C1.out _).mono ?_
  rintro e w1 ⟨v, rfl, hsl, hb1⟩
  rw [HP.out] at hsl
  obtain ⟨sa, cap, rfl, hl1, hl2, hcl⟩ := hsl
  obtain ⟨b, off, rfl, hlt, r0⟩ := hcl 0 p0 rfl
  have r1 : w1.cell? ⟨b, off + 1, none⟩ = some (strV p1) := by
    obtain ⟨b2, off2, h2, _, h⟩ := hcl 1 p1 rfl
    cases h2; exact h
  have r2 : w1.cell? ⟨b, off + 2, none⟩ = some (strV p2) := by
    obtain ⟨b2, off2, h2, _, h⟩ := hcl 2 p2 rfl
    cases h2; exact h
  have r3 : w1.cell? ⟨b, off + 3, none⟩ = some (strV p3) := by
    obtain ⟨b2, off2, h2, _, h⟩ := hcl 3 p3 rfl
    cases h2; exact h
  unfold strV at r0 r1 r2 r3
  rw [Nat.add_zero] at r0
  clear hcl
  have hm1 := HM.out.below hb1 (Nat.le_refl _)
  have HM1 := Lib.hid hm1
  have HB1 := Lib.hid hb1
  clear hm1 hb1
  go_wp2_with fail
  refine (C2.out _ HM1.out).mono ?_
  rintro e w2 ⟨x, y, z, n, rfl, hx, hb2⟩
  have s0 := below_cell hb2 (p := ⟨b, off, none⟩) (by simp only; omega) r0
  have s1 := below_cell hb2 (p := ⟨b, off + 1, none⟩) (by simp only; omega) r1
  have s2 := below_cell hb2 (p := ⟨b, off + 2, none⟩) (by simp only; omega) r2
  have s3 := below_cell hb2 (p := ⟨b, off + 3, none⟩) (by simp only; omega) r3
  clear r0 r1 r2 r3
  have hz2 := hb2.size
  have HB2 := Lib.hid (HB1.out.trans (hb2.mono HB1.out.size))
  clear hb2
  have HX := Lib.hid hx; clear hx
  have hF := two_blocks w2 (.string x) (.string y) (.string z) (.string ⟨#[]⟩) (.string ⟨#[]⟩) (.string ⟨#[]⟩) 23 23
  go_wp2_with fail
  generalize (w2.alloc (Obj.cells #[Value.string x, Value.string y, Value.string z] 23)).alloc (Obj.cells #[Value.string { data := #[] }, Value.string { data := #[] }, Value.string { data := #[] }] 23) = w3 at hF ⊢
  obtain ⟨hF0, hF1, hF2, hE0, hE1, hE2, hN0, hN1, hN2, hz3, hb3, ho3⟩ := hF
  have HB3 := Lib.hid (HB2.out.trans (hb3.mono HB2.out.size))
  have r0 := (ho3 b (off) (by omega)).trans s0
  have r1 := (ho3 b (off + 1) (by omega)).trans s1
  have r2 := (ho3 b (off + 2) (by omega)).trans s2
  have r3 := (ho3 b (off + 3) (by omega)).trans s3
  clear ho3 hb3 s0 s1 s2 s3
  go_wp2_with fail
  refine (C4.out _).mono ?_
  rintro e w4 ⟨rfl, hb4⟩
  have g0 := below_cell hb4 (p := ⟨w2.heap.size, 0, none⟩) (by simp only; omega) hF0
  have g1 := below_cell hb4 (p := ⟨w2.heap.size, 1, none⟩) (by simp only; omega) hF1
  have g2 := below_cell hb4 (p := ⟨w2.heap.size, 2, none⟩) (by simp only; omega) hF2
  have k0 := below_cell hb4 (p := ⟨w2.heap.size + 1, 0, none⟩) (by simp only; omega) hE0
  have k1 := below_cell hb4 (p := ⟨w2.heap.size + 1, 1, none⟩) (by simp only; omega) hE1
  have k2 := below_cell hb4 (p := ⟨w2.heap.size + 1, 2, none⟩) (by simp only; omega) hE2
  have s0 := below_cell hb4 (p := ⟨b, off, none⟩) (by simp only; omega) r0
  have s1 := below_cell hb4 (p := ⟨b, off + 1, none⟩) (by simp only; omega) r1
  have s2 := below_cell hb4 (p := ⟨b, off + 2, none⟩) (by simp only; omega) r2
  have s3 := below_cell hb4 (p := ⟨b, off + 3, none⟩) (by simp only; omega) r3
  have hz4 := hb4.size
  have HB4 := Lib.hid (HB3.out.trans (hb4.mono HB3.out.size))
  clear hb4 hF0 hF1 hF2 hE0 hE1 hE2 hN0 hN1 hN2 r0 r1 r2 r3
  have HM4 := Lib.hid (HM.out.below HB4.out (Nat.le_refl _))
  rcases HX.out with ⟨h, -⟩ | ⟨rfl, rfl, rfl, rfl, rfl⟩
  · exact absurd (h.symm.trans (HG.out.symm.trans mayGav_none)) (by simp)
  all_goals
    clear HX
    go_wp2_with fail
    refine (C3.out _ HM4.out).mono ?_
    rintro e w5 ⟨x', y', z', u', m, rfl, hy, hb5⟩
    have HY := Lib.hid hy; clear hy
    have r0 := below_cell hb5 (p := ⟨b, off, none⟩) (by simp only; omega) s0
    have r1 := below_cell hb5 (p := ⟨b, off + 1, none⟩) (by simp only; omega) s1
    have r2 := below_cell hb5 (p := ⟨b, off + 2, none⟩) (by simp only; omega) s2
    have r3 := below_cell hb5 (p := ⟨b, off + 3, none⟩) (by simp only; omega) s3
    have hz5 := hb5.size
    have HB5 := Lib.hid (HB4.out.trans (hb5.mono HB4.out.size))
    clear hb5 g0 g1 g2 k0 k1 k2 s0 s1 s2 s3
    have hF := blocks4 w5 (.string x') (.string y') (.string z') (.string u') (.string ⟨#[]⟩) (.string ⟨#[]⟩) (.string ⟨#[]⟩) (.string ⟨#[]⟩) 25 25
    have o0 := (hF.2.2.2.2.2.2.2.2.2.2.2.2.2.2 b (off) (by omega)).trans r0
    have o1 := (hF.2.2.2.2.2.2.2.2.2.2.2.2.2.2 b (off + 1) (by omega)).trans r1
    have o2 := (hF.2.2.2.2.2.2.2.2.2.2.2.2.2.2 b (off + 2) (by omega)).trans r2
    have o3 := (hF.2.2.2.2.2.2.2.2.2.2.2.2.2.2 b (off + 3) (by omega)).trans r3
    have hemp := isEmpty_beq (str p3)
    rw [decide_eq_false (show ¬ (str p3).size = 0 by rw [size_str]; intro h; exact hc (List.length_eq_zero_iff.1 h))] at hemp
    go_wp2_with fail
    generalize ((w5.alloc (Obj.cells #[Value.string x', Value.string y', Value.string z', Value.string u'] 25)).alloc (Obj.cells #[Value.string { data := #[] }, Value.string { data := #[] }, Value.string { data := #[] }, Value.string { data := #[] }] 25)) = w6 at hF o0 o1 o2 o3 ⊢
    obtain ⟨hF0, hF1, hF2, hF3, hE0, hE1, hE2, hE3, hN0, hN1, hN2, hN3, hz6, hb6, -⟩ := hF
    have HB6 := Lib.hid (HB5.out.trans (hb6.mono HB5.out.size))
    clear hb6 r0 r1 r2 r3
    have hbn5 : b ≠ w5.heap.size + 1 := by omega
    go_region_held3 (fun w' => w'.cell? ⟨b, off, none⟩ = some (.string (str p0)) ∧ w'.cell? ⟨b, off + 1, none⟩ = some (.string (str p1)) ∧ w'.cell? ⟨b, off + 2, none⟩ = some (.string (str p2))) (first | (refine ⟨?_, ?_, ?_⟩ <;> with_reducible exact (keepS4 hbn5 _ _ _ _ _).trans (by assumption)) | go_keep) (fail)
    rename_i hHeld
    clear hHeld
    have v3 := (keepS4 (show b ≠ w5.heap.size + 1 by omega) (.string (str p0)) (.string (str p1)) (.string (str p2)) (.string ⟨#[]⟩) (off + 3)).trans o3
    have y0 := putS4_0 _ _ _ _ (.string (str p0)) (.string (str p1)) (.string (str p2)) (.string ⟨#[]⟩) hE0 hE1 hE2 hE3
    have y1 := putS4_1 _ _ _ _ (.string (str p0)) (.string (str p1)) (.string (str p2)) (.string ⟨#[]⟩) hE0 hE1 hE2 hE3
    have y2 := putS4_2 _ _ _ _ (.string (str p0)) (.string (str p1)) (.string (str p2)) (.string ⟨#[]⟩) hE0 hE1 hE2 hE3
    have y3 := putS4_3 _ _ _ _ (.string (str p0)) (.string (str p1)) (.string (str p2)) (.string ⟨#[]⟩) hE0 hE1 hE2 hE3
    have yz := frzS4_0 (B := w5.heap.size + 1) (.string (str p0)) (.string (str p1)) (.string (str p2)) (.string ⟨#[]⟩) hN3
    have q0 := (keepS4 (show w5.heap.size ≠ w5.heap.size + 1 by omega) (.string (str p0)) (.string (str p1)) (.string (str p2)) (.string ⟨#[]⟩) 0).trans hF0
    have q1 := (keepS4 (show w5.heap.size ≠ w5.heap.size + 1 by omega) (.string (str p0)) (.string (str p1)) (.string (str p2)) (.string ⟨#[]⟩) 1).trans hF1
    have q2 := (keepS4 (show w5.heap.size ≠ w5.heap.size + 1 by omega) (.string (str p0)) (.string (str p1)) (.string (str p2)) (.string ⟨#[]⟩) 2).trans hF2
    have q3 := (keepS4 (show w5.heap.size ≠ w5.heap.size + 1 by omega) (.string (str p0)) (.string (str p1)) (.string (str p2)) (.string ⟨#[]⟩) 3).trans hF3
    have qz := sizeS4 (w := w6) (B := w5.heap.size + 1) (.string (str p0)) (.string (str p1)) (.string (str p2)) (.string ⟨#[]⟩)
    have hw5 := HB5.out.size
    have qb := HB6.out.trans (belowS4 (show w.heap.size ≤ w5.heap.size + 1 by omega) (.string (str p0)) (.string (str p1)) (.string (str p2)) (.string ⟨#[]⟩))
    have HF := Lib.hid qb; clear qb
    clear hF0 hF1 hF2 hF3 hE0 hE1 hE2 hE3 hN0 hN1 hN2 hN3 o0 o1 o2 o3
    have qz2 : ((((w6.setCell { block := w5.heap.size + 1, off := 0 } (Value.string (str p0))).setCell { block := w5.heap.size + 1, off := 1 } (Value.string (str p1))).setCell { block := w5.heap.size + 1, off := 2 } (Value.string (str p2))).setCell { block := w5.heap.size + 1, off := 3 } (Value.string { data := #[] })).drew.heap.size = w5.heap.size + 2 := qz.trans hz6
    clear qz
    generalize ((((w6.setCell { block := w5.heap.size + 1, off := 0 } (Value.string (str p0))).setCell { block := w5.heap.size + 1, off := 1 } (Value.string (str p1))).setCell { block := w5.heap.size + 1, off := 2 } (Value.string (str p2))).setCell { block := w5.heap.size + 1, off := 3 } (Value.string { data := #[] })).drew = w6b at v3 y0 y1 y2 y3 yz q0 q1 q2 q3 qz2 HF ⊢
    have hlt2 : w5.heap.size + 2 ≤ w6b.heap.size := by omega
    have QZ := Lib.hid qz2; clear qz2
    go_wp2_with fail
    refine (C5.out _).mono ?_
    rintro e w7 ⟨rfl, hb7⟩
    have g0 := below_cell hb7 (p := ⟨w5.heap.size, 0, none⟩) (by first | (rw [sizeS4]; simp only; omega) | (simp [go_sem]; omega) | (simp only; omega)) ((World.cell?_setCell_other _ _ _ _ (by simp)).trans q0)
    have k0 := below_cell hb7 (p := ⟨w5.heap.size + 1, 0, none⟩) (by first | (rw [sizeS4]; simp only; omega) | (simp [go_sem]; omega) | (simp only; omega)) ((World.cell?_setCell_other _ _ _ _ (by simp)).trans y0)
    have g1 := below_cell hb7 (p := ⟨w5.heap.size, 1, none⟩) (by first | (rw [sizeS4]; simp only; omega) | (simp [go_sem]; omega) | (simp only; omega)) ((World.cell?_setCell_other _ _ _ _ (by simp)).trans q1)
    have k1 := below_cell hb7 (p := ⟨w5.heap.size + 1, 1, none⟩) (by first | (rw [sizeS4]; simp only; omega) | (simp [go_sem]; omega) | (simp only; omega)) ((World.cell?_setCell_other _ _ _ _ (by simp)).trans y1)
    have g2 := below_cell hb7 (p := ⟨w5.heap.size, 2, none⟩) (by first | (rw [sizeS4]; simp only; omega) | (simp [go_sem]; omega) | (simp only; omega)) ((World.cell?_setCell_other _ _ _ _ (by simp)).trans q2)
    have k2 := below_cell hb7 (p := ⟨w5.heap.size + 1, 2, none⟩) (by first | (rw [sizeS4]; simp only; omega) | (simp [go_sem]; omega) | (simp only; omega)) ((World.cell?_setCell_other _ _ _ _ (by simp)).trans y2)
    have g3 := below_cell hb7 (p := ⟨w5.heap.size, 3, none⟩) (by first | (rw [sizeS4]; simp only; omega) | (simp [go_sem]; omega) | (simp only; omega)) ((World.cell?_setCell_other _ _ _ _ (by simp)).trans q3)
    have k3 := below_cell hb7 (p := ⟨w5.heap.size + 1, 3, none⟩) (by first | (rw [sizeS4]; simp only; omega) | (simp [go_sem]; omega) | (simp only; omega)) (World.cell?_setCell_same _ _ _ y3)
    have hw5 := HB5.out.size
    have HB7 := (HF.out.setCell (p := ⟨w5.heap.size + 1, 3, none⟩) (show w.heap.size ≤ w5.heap.size + 1 by omega) (.string (str p3))).trans (hb7.mono (by simp [go_sem]; exact HF.out.size))
    have HL := Lib.hid (lives_at w w7 HM.out HB7)
    clear hb7 HB7 v3 y0 y1 y2 y3 yz q0 q1 q2 q3
    rcases HY.out with ⟨rfl, rfl, rfl, rfl, rfl, rfl⟩ | ⟨rfl, rfl, rfl, rfl, rfl, rfl⟩
    all_goals
      clear HY
      go_wp2_with fail
      refine HL.out.mono ?_
      rintro e w8 ⟨rfl, hb8⟩
      go_wp2
      go_ret
      exact ⟨rfl, hb8⟩

set_option maxHeartbeats 8000000 in
theorem parses_C (s t : ByteArray) (ht : t.size ≤ 400) (p0 p1 p2 : List UInt8) (hp : pcs t.data.toList = [p0, p1, p2, []]) (hs : s.size ≤ 9223372036854775807)
    (hcut : ∀ w, Calls Tryd.prog 19 #[.string s] w fun e w' => e = .returned (.string t) ∧ w = w') (w : World) (hm : MaxOk w) :
    Calls Tryd.prog 4 #[.string s] w fun e w' => e = .returned (.bool true) ∧ Below w.heap.size w w' := by
  have hsz : t.data.toList.length = t.size := by simp
  have hle := pcs_len_le t.data.toList
  rw [hp] at hle
  have hwg : wantGav t.data.toList = (⟨#[]⟩, ⟨#[]⟩, ⟨#[]⟩) := by unfold wantGav; rw [hp]
  have hwk : wantKey t.data.toList = (⟨#[]⟩, ⟨#[]⟩, ⟨#[]⟩, ⟨#[]⟩) := by unfold wantKey; rw [hp]; simp
  have l0 := hle p0 (by simp)
  have l1 := hle p1 (by simp)
  have l2 := hle p2 (by simp)
  have l3 := hle [] (by simp)
  have c1 := fun w => Pieces_any t ht w
  have c2 := fun w => ParseGav_2 t ht (⟨#[]⟩) (⟨#[]⟩) (⟨#[]⟩) hwg w
  have c3 := fun w => ParseKey_2 t ht (⟨#[]⟩) (⟨#[]⟩) (⟨#[]⟩) (⟨#[]⟩) hwk w
  have c4 := fun w => refMayGav_any (⟨#[]⟩) (⟨#[]⟩) (⟨#[]⟩) (by decide) (by decide) (by decide) w
  have c5 := fun w => refMayKey_any (⟨#[]⟩) (⟨#[]⟩) (⟨#[]⟩) (⟨#[]⟩) (by decide) (by decide) (by decide) (by decide) w
  unfold gavV at c4
  unfold keyV at c5
  clear hle hwg hwk hsz l0 l1 l2 l3
  generalize hG : mayGav (⟨#[]⟩) (⟨#[]⟩) (⟨#[]⟩) = i1 at c2 c4
  generalize hK : mayKey (⟨#[]⟩) (⟨#[]⟩) (⟨#[]⟩) (⟨#[]⟩) = i2 at c3 c5
  have C1 := Lib.hid c1; clear c1
  have C2 := Lib.hid c2; clear c2
  have C3 := Lib.hid c3; clear c3
  have C4 := Lib.hid c4; clear c4
  have C5 := Lib.hid c5; clear c5
  have HP := Lib.hid hp; clear hp
  have HG := Lib.hid hG; clear hG
  have HKK := Lib.hid hK; clear hK
  have HCUT := Lib.hid hcut; clear hcut
  have HM := Lib.hid hm; clear hm
  go_enter Tryd.func4, Tryd.ntmps4
  go_wp2_with fail
  refine (HCUT.out _).mono ?_
  rintro e w' ⟨rfl, rfl⟩
  go_wp2_with fail
  refine (C1.out _).mono ?_
  rintro e w1 ⟨v, rfl, hsl, hb1⟩
  rw [HP.out] at hsl
  obtain ⟨sa, cap, rfl, hl1, hl2, hcl⟩ := hsl
  obtain ⟨b, off, rfl, hlt, r0⟩ := hcl 0 p0 rfl
  have r1 : w1.cell? ⟨b, off + 1, none⟩ = some (strV p1) := by
    obtain ⟨b2, off2, h2, _, h⟩ := hcl 1 p1 rfl
    cases h2; exact h
  have r2 : w1.cell? ⟨b, off + 2, none⟩ = some (strV p2) := by
    obtain ⟨b2, off2, h2, _, h⟩ := hcl 2 p2 rfl
    cases h2; exact h
  have r3 : w1.cell? ⟨b, off + 3, none⟩ = some (strV []) := by
    obtain ⟨b2, off2, h2, _, h⟩ := hcl 3 [] rfl
    cases h2; exact h
  unfold strV at r0 r1 r2 r3
  rw [Nat.add_zero] at r0
  clear hcl
  have hm1 := HM.out.below hb1 (Nat.le_refl _)
  have HM1 := Lib.hid hm1
  have HB1 := Lib.hid hb1
  clear hm1 hb1
  go_wp2_with fail
  refine (C2.out _ HM1.out).mono ?_
  rintro e w2 ⟨x, y, z, n, rfl, hx, hb2⟩
  have s0 := below_cell hb2 (p := ⟨b, off, none⟩) (by simp only; omega) r0
  have s1 := below_cell hb2 (p := ⟨b, off + 1, none⟩) (by simp only; omega) r1
  have s2 := below_cell hb2 (p := ⟨b, off + 2, none⟩) (by simp only; omega) r2
  have s3 := below_cell hb2 (p := ⟨b, off + 3, none⟩) (by simp only; omega) r3
  clear r0 r1 r2 r3
  have hz2 := hb2.size
  have HB2 := Lib.hid (HB1.out.trans (hb2.mono HB1.out.size))
  clear hb2
  have HX := Lib.hid hx; clear hx
  have hF := two_blocks w2 (.string x) (.string y) (.string z) (.string ⟨#[]⟩) (.string ⟨#[]⟩) (.string ⟨#[]⟩) 23 23
  go_wp2_with fail
  generalize (w2.alloc (Obj.cells #[Value.string x, Value.string y, Value.string z] 23)).alloc (Obj.cells #[Value.string { data := #[] }, Value.string { data := #[] }, Value.string { data := #[] }] 23) = w3 at hF ⊢
  obtain ⟨hF0, hF1, hF2, hE0, hE1, hE2, hN0, hN1, hN2, hz3, hb3, ho3⟩ := hF
  have HB3 := Lib.hid (HB2.out.trans (hb3.mono HB2.out.size))
  have r0 := (ho3 b (off) (by omega)).trans s0
  have r1 := (ho3 b (off + 1) (by omega)).trans s1
  have r2 := (ho3 b (off + 2) (by omega)).trans s2
  have r3 := (ho3 b (off + 3) (by omega)).trans s3
  clear ho3 hb3 s0 s1 s2 s3
  go_wp2_with fail
  refine (C4.out _).mono ?_
  rintro e w4 ⟨rfl, hb4⟩
  have g0 := below_cell hb4 (p := ⟨w2.heap.size, 0, none⟩) (by simp only; omega) hF0
  have g1 := below_cell hb4 (p := ⟨w2.heap.size, 1, none⟩) (by simp only; omega) hF1
  have g2 := below_cell hb4 (p := ⟨w2.heap.size, 2, none⟩) (by simp only; omega) hF2
  have k0 := below_cell hb4 (p := ⟨w2.heap.size + 1, 0, none⟩) (by simp only; omega) hE0
  have k1 := below_cell hb4 (p := ⟨w2.heap.size + 1, 1, none⟩) (by simp only; omega) hE1
  have k2 := below_cell hb4 (p := ⟨w2.heap.size + 1, 2, none⟩) (by simp only; omega) hE2
  have s0 := below_cell hb4 (p := ⟨b, off, none⟩) (by simp only; omega) r0
  have s1 := below_cell hb4 (p := ⟨b, off + 1, none⟩) (by simp only; omega) r1
  have s2 := below_cell hb4 (p := ⟨b, off + 2, none⟩) (by simp only; omega) r2
  have s3 := below_cell hb4 (p := ⟨b, off + 3, none⟩) (by simp only; omega) r3
  have hz4 := hb4.size
  have HB4 := Lib.hid (HB3.out.trans (hb4.mono HB3.out.size))
  clear hb4 hF0 hF1 hF2 hE0 hE1 hE2 hN0 hN1 hN2 r0 r1 r2 r3
  have HM4 := Lib.hid (HM.out.below HB4.out (Nat.le_refl _))
  rcases HX.out with ⟨h, -⟩ | ⟨rfl, rfl, rfl, rfl, rfl⟩
  · exact absurd (h.symm.trans (HG.out.symm.trans mayGav_none)) (by simp)
  all_goals
    clear HX
    go_wp2_with fail
    refine (C3.out _ HM4.out).mono ?_
    rintro e w5 ⟨x', y', z', u', m, rfl, hy, hb5⟩
    have HY := Lib.hid hy; clear hy
    have r0 := below_cell hb5 (p := ⟨b, off, none⟩) (by simp only; omega) s0
    have r1 := below_cell hb5 (p := ⟨b, off + 1, none⟩) (by simp only; omega) s1
    have r2 := below_cell hb5 (p := ⟨b, off + 2, none⟩) (by simp only; omega) s2
    have r3 := below_cell hb5 (p := ⟨b, off + 3, none⟩) (by simp only; omega) s3
    have hz5 := hb5.size
    have HB5 := Lib.hid (HB4.out.trans (hb5.mono HB4.out.size))
    clear hb5 g0 g1 g2 k0 k1 k2 s0 s1 s2 s3
    have hF := blocks4 w5 (.string x') (.string y') (.string z') (.string u') (.string ⟨#[]⟩) (.string ⟨#[]⟩) (.string ⟨#[]⟩) (.string ⟨#[]⟩) 25 25
    have o0 := (hF.2.2.2.2.2.2.2.2.2.2.2.2.2.2 b (off) (by omega)).trans r0
    have o1 := (hF.2.2.2.2.2.2.2.2.2.2.2.2.2.2 b (off + 1) (by omega)).trans r1
    have o2 := (hF.2.2.2.2.2.2.2.2.2.2.2.2.2.2 b (off + 2) (by omega)).trans r2
    have o3 := (hF.2.2.2.2.2.2.2.2.2.2.2.2.2.2 b (off + 3) (by omega)).trans r3
    have hemp := isEmpty_beq (str [])
    rw [decide_eq_true (show (str []).size = 0 from rfl)] at hemp
    go_wp2_with fail
    generalize ((w5.alloc (Obj.cells #[Value.string x', Value.string y', Value.string z', Value.string u'] 25)).alloc (Obj.cells #[Value.string { data := #[] }, Value.string { data := #[] }, Value.string { data := #[] }, Value.string { data := #[] }] 25)) = w6 at hF o0 o1 o2 o3 ⊢
    obtain ⟨hF0, hF1, hF2, hF3, hE0, hE1, hE2, hE3, hN0, hN1, hN2, hN3, hz6, hb6, -⟩ := hF
    have HB6 := Lib.hid (HB5.out.trans (hb6.mono HB5.out.size))
    clear hb6 r0 r1 r2 r3
    go_wp2_with fail
    refine (C5.out _).mono ?_
    rintro e w7 ⟨rfl, hb7⟩
    have g0 := below_cell hb7 (p := ⟨w5.heap.size, 0, none⟩) (by first | (rw [sizeS4]; simp only; omega) | (simp [go_sem]; omega) | (simp only; omega)) (hF0)
    have k0 := below_cell hb7 (p := ⟨w5.heap.size + 1, 0, none⟩) (by first | (rw [sizeS4]; simp only; omega) | (simp [go_sem]; omega) | (simp only; omega)) (hE0)
    have g1 := below_cell hb7 (p := ⟨w5.heap.size, 1, none⟩) (by first | (rw [sizeS4]; simp only; omega) | (simp [go_sem]; omega) | (simp only; omega)) (hF1)
    have k1 := below_cell hb7 (p := ⟨w5.heap.size + 1, 1, none⟩) (by first | (rw [sizeS4]; simp only; omega) | (simp [go_sem]; omega) | (simp only; omega)) (hE1)
    have g2 := below_cell hb7 (p := ⟨w5.heap.size, 2, none⟩) (by first | (rw [sizeS4]; simp only; omega) | (simp [go_sem]; omega) | (simp only; omega)) (hF2)
    have k2 := below_cell hb7 (p := ⟨w5.heap.size + 1, 2, none⟩) (by first | (rw [sizeS4]; simp only; omega) | (simp [go_sem]; omega) | (simp only; omega)) (hE2)
    have g3 := below_cell hb7 (p := ⟨w5.heap.size, 3, none⟩) (by first | (rw [sizeS4]; simp only; omega) | (simp [go_sem]; omega) | (simp only; omega)) (hF3)
    have k3 := below_cell hb7 (p := ⟨w5.heap.size + 1, 3, none⟩) (by first | (rw [sizeS4]; simp only; omega) | (simp [go_sem]; omega) | (simp only; omega)) (hE3)
    have hw5 := HB5.out.size
    have HB7 := HB6.out.trans (hb7.mono HB6.out.size)
    have HL := Lib.hid (lives_at w w7 HM.out HB7)
    clear hb7 HB7 hF0 hF1 hF2 hF3 hE0 hE1 hE2 hE3 hN0 hN1 hN2 hN3 o0 o1 o2 o3
    rcases HY.out with ⟨h, -⟩ | ⟨rfl, rfl, rfl, rfl, rfl, rfl⟩
    · exact absurd (h.symm.trans (HKK.out.symm.trans mayKey_none)) (by simp)
    all_goals
      clear HY
      go_wp2_with fail
      refine HL.out.mono ?_
      rintro e w8 ⟨rfl, hb8⟩
      go_wp2
      go_ret
      exact ⟨rfl, hb8⟩

set_option maxHeartbeats 8000000 in
theorem parses_D (s t : ByteArray) (ht : t.size ≤ 400) (xs : List (List UInt8)) (hp : pcs t.data.toList = xs) (h3 : xs.length ≠ 3) (h4 : xs.length ≠ 4) (hs : s.size ≤ 9223372036854775807)
    (hcut : ∀ w, Calls Tryd.prog 19 #[.string s] w fun e w' => e = .returned (.string t) ∧ w = w') (w : World) (hm : MaxOk w) :
    Calls Tryd.prog 4 #[.string s] w fun e w' => e = .returned (.bool true) ∧ Below w.heap.size w w' := by
  have hsz : t.data.toList.length = t.size := by simp
  have hle := pcs_len_le t.data.toList
  rw [hp] at hle
  have hwg : wantGav t.data.toList = (⟨#[]⟩, ⟨#[]⟩, ⟨#[]⟩) := by
    unfold wantGav; rw [hp]
    split
    · next h => simp at h3
    · rfl
  have hwk : wantKey t.data.toList = (⟨#[]⟩, ⟨#[]⟩, ⟨#[]⟩, ⟨#[]⟩) := by
    unfold wantKey; rw [hp]
    split
    · next h => simp at h3
    · next h => simp at h4
    · rfl
  have c1 := fun w => Pieces_any t ht w
  have c2 := fun w => ParseGav_2 t ht (⟨#[]⟩) (⟨#[]⟩) (⟨#[]⟩) hwg w
  have c3 := fun w => ParseKey_2 t ht (⟨#[]⟩) (⟨#[]⟩) (⟨#[]⟩) (⟨#[]⟩) hwk w
  have c4 := fun w => refMayGav_any (⟨#[]⟩) (⟨#[]⟩) (⟨#[]⟩) (by decide) (by decide) (by decide) w
  have c5 := fun w => refMayKey_any (⟨#[]⟩) (⟨#[]⟩) (⟨#[]⟩) (⟨#[]⟩) (by decide) (by decide) (by decide) (by decide) w
  unfold gavV at c4
  unfold keyV at c5
  clear hle hwg hwk hsz
  generalize hG : mayGav (⟨#[]⟩) (⟨#[]⟩) (⟨#[]⟩) = i1 at c2 c4
  generalize hK : mayKey (⟨#[]⟩) (⟨#[]⟩) (⟨#[]⟩) (⟨#[]⟩) = i2 at c3 c5
  have C1 := Lib.hid c1; clear c1
  have C2 := Lib.hid c2; clear c2
  have C3 := Lib.hid c3; clear c3
  have C4 := Lib.hid c4; clear c4
  have C5 := Lib.hid c5; clear c5
  have HP := Lib.hid hp; clear hp
  have HG := Lib.hid hG; clear hG
  have HKK := Lib.hid hK; clear hK
  have HCUT := Lib.hid hcut; clear hcut
  have HM := Lib.hid hm; clear hm
  go_enter Tryd.func4, Tryd.ntmps4
  go_wp2_with fail
  refine (HCUT.out _).mono ?_
  rintro e w' ⟨rfl, rfl⟩
  go_wp2_with fail
  refine (C1.out _).mono ?_
  rintro e w1 ⟨v, rfl, hsl, hb1⟩
  rw [HP.out] at hsl
  obtain ⟨sa, cap, rfl, hl1, hl2, hcl⟩ := hsl
  clear hcl
  have hm1 := HM.out.below hb1 (Nat.le_refl _)
  have HM1 := Lib.hid hm1
  have HB1 := Lib.hid hb1
  clear hm1 hb1
  go_wp2_with fail
  refine (C2.out _ HM1.out).mono ?_
  rintro e w2 ⟨x, y, z, n, rfl, hx, hb2⟩
  have hz2 := hb2.size
  have HB2 := Lib.hid (HB1.out.trans (hb2.mono HB1.out.size))
  clear hb2
  have HX := Lib.hid hx; clear hx
  have hF := two_blocks w2 (.string x) (.string y) (.string z) (.string ⟨#[]⟩) (.string ⟨#[]⟩) (.string ⟨#[]⟩) 23 23
  go_wp2_with fail
  generalize (w2.alloc (Obj.cells #[Value.string x, Value.string y, Value.string z] 23)).alloc (Obj.cells #[Value.string { data := #[] }, Value.string { data := #[] }, Value.string { data := #[] }] 23) = w3 at hF ⊢
  obtain ⟨hF0, hF1, hF2, hE0, hE1, hE2, hN0, hN1, hN2, hz3, hb3, ho3⟩ := hF
  have HB3 := Lib.hid (HB2.out.trans (hb3.mono HB2.out.size))
  clear ho3 hb3
  go_wp2_with fail
  refine (C4.out _).mono ?_
  rintro e w4 ⟨rfl, hb4⟩
  have g0 := below_cell hb4 (p := ⟨w2.heap.size, 0, none⟩) (by simp only; omega) hF0
  have g1 := below_cell hb4 (p := ⟨w2.heap.size, 1, none⟩) (by simp only; omega) hF1
  have g2 := below_cell hb4 (p := ⟨w2.heap.size, 2, none⟩) (by simp only; omega) hF2
  have k0 := below_cell hb4 (p := ⟨w2.heap.size + 1, 0, none⟩) (by simp only; omega) hE0
  have k1 := below_cell hb4 (p := ⟨w2.heap.size + 1, 1, none⟩) (by simp only; omega) hE1
  have k2 := below_cell hb4 (p := ⟨w2.heap.size + 1, 2, none⟩) (by simp only; omega) hE2
  have hz4 := hb4.size
  have HB4 := Lib.hid (HB3.out.trans (hb4.mono HB3.out.size))
  clear hb4 hF0 hF1 hF2 hE0 hE1 hE2 hN0 hN1 hN2
  have HM4 := Lib.hid (HM.out.below HB4.out (Nat.le_refl _))
  rcases HX.out with ⟨h, -⟩ | ⟨rfl, rfl, rfl, rfl, rfl⟩
  · exact absurd (h.symm.trans (HG.out.symm.trans mayGav_none)) (by simp)
  all_goals
    clear HX
    go_wp2_with fail
    refine (C3.out _ HM4.out).mono ?_
    rintro e w5 ⟨x', y', z', u', m, rfl, hy, hb5⟩
    have HY := Lib.hid hy; clear hy
    have hz5 := hb5.size
    have HB5 := Lib.hid (HB4.out.trans (hb5.mono HB4.out.size))
    clear hb5 g0 g1 g2 k0 k1 k2
    have hF := blocks4 w5 (.string x') (.string y') (.string z') (.string u') (.string ⟨#[]⟩) (.string ⟨#[]⟩) (.string ⟨#[]⟩) (.string ⟨#[]⟩) 25 25
    go_wp2_with fail
    generalize ((w5.alloc (Obj.cells #[Value.string x', Value.string y', Value.string z', Value.string u'] 25)).alloc (Obj.cells #[Value.string { data := #[] }, Value.string { data := #[] }, Value.string { data := #[] }, Value.string { data := #[] }] 25)) = w6 at hF  ⊢
    obtain ⟨hF0, hF1, hF2, hF3, hE0, hE1, hE2, hE3, hN0, hN1, hN2, hN3, hz6, hb6, -⟩ := hF
    have HB6 := Lib.hid (HB5.out.trans (hb6.mono HB5.out.size))
    clear hb6
    go_wp2_with fail
    refine (C5.out _).mono ?_
    rintro e w7 ⟨rfl, hb7⟩
    have g0 := below_cell hb7 (p := ⟨w5.heap.size, 0, none⟩) (by first | (rw [sizeS4]; simp only; omega) | (simp [go_sem]; omega) | (simp only; omega)) (hF0)
    have k0 := below_cell hb7 (p := ⟨w5.heap.size + 1, 0, none⟩) (by first | (rw [sizeS4]; simp only; omega) | (simp [go_sem]; omega) | (simp only; omega)) (hE0)
    have g1 := below_cell hb7 (p := ⟨w5.heap.size, 1, none⟩) (by first | (rw [sizeS4]; simp only; omega) | (simp [go_sem]; omega) | (simp only; omega)) (hF1)
    have k1 := below_cell hb7 (p := ⟨w5.heap.size + 1, 1, none⟩) (by first | (rw [sizeS4]; simp only; omega) | (simp [go_sem]; omega) | (simp only; omega)) (hE1)
    have g2 := below_cell hb7 (p := ⟨w5.heap.size, 2, none⟩) (by first | (rw [sizeS4]; simp only; omega) | (simp [go_sem]; omega) | (simp only; omega)) (hF2)
    have k2 := below_cell hb7 (p := ⟨w5.heap.size + 1, 2, none⟩) (by first | (rw [sizeS4]; simp only; omega) | (simp [go_sem]; omega) | (simp only; omega)) (hE2)
    have g3 := below_cell hb7 (p := ⟨w5.heap.size, 3, none⟩) (by first | (rw [sizeS4]; simp only; omega) | (simp [go_sem]; omega) | (simp only; omega)) (hF3)
    have k3 := below_cell hb7 (p := ⟨w5.heap.size + 1, 3, none⟩) (by first | (rw [sizeS4]; simp only; omega) | (simp [go_sem]; omega) | (simp only; omega)) (hE3)
    have hw5 := HB5.out.size
    have HB7 := HB6.out.trans (hb7.mono HB6.out.size)
    have HL := Lib.hid (lives_at w w7 HM.out HB7)
    clear hb7 HB7 hF0 hF1 hF2 hF3 hE0 hE1 hE2 hE3 hN0 hN1 hN2 hN3
    rcases HY.out with ⟨h, -⟩ | ⟨rfl, rfl, rfl, rfl, rfl, rfl⟩
    · exact absurd (h.symm.trans (HKK.out.symm.trans mayKey_none)) (by simp)
    all_goals
      clear HY
      go_wp2_with fail
      refine HL.out.mono ?_
      rintro e w8 ⟨rfl, hb8⟩
      go_wp2
      go_ret
      exact ⟨rfl, hb8⟩

theorem cut06_is (s : ByteArray) (hs : s.size ≤ 9223372036854775807) : ∃ t : ByteArray, t.size ≤ 400 ∧ ∀ w, Calls Tryd.prog 19 #[.string s] w fun e w' => e = .returned (.string t) ∧ w = w' := by
  by_cases h : 400 < s.size
  · have h1 : (400 : Int) < s.size := by omega
    refine ⟨s.extract 0 400, by rw [ext_str, size_str]; simp; omega, fun w => ?_⟩
    go_enter Tryd.func19, Tryd.ntmps19
    go_wp2
    go_ret
    exact ⟨rfl, rfl⟩
  · have h1 : (s.size : Int) ≤ 400 := by omega
    refine ⟨s, by omega, fun w => ?_⟩
    go_enter Tryd.func19, Tryd.ntmps19
    go_wp2
    go_ret
    exact ⟨rfl, rfl⟩
theorem walk_CoordParses (s : ByteArray) (hs : s.size ≤ 9223372036854775807) (w : World) (hm : MaxOk w) :
    Calls Tryd.prog 4 #[.string s] w fun e w' => e = .returned (.bool true) ∧ Below w.heap.size w w' := by
  obtain ⟨t, ht, hcut⟩ := cut06_is s hs
  by_cases h3 : (pcs t.data.toList).length = 3
  · obtain ⟨g, a, v, hp⟩ : ∃ g a v, pcs t.data.toList = [g, a, v] := by
      match pcs t.data.toList, h3 with
      | [g, a, v], _ => exact ⟨g, a, v, rfl⟩
    exact parses_A s t ht g a v hp hs hcut w hm
  by_cases h4 : (pcs t.data.toList).length = 4
  · obtain ⟨g, a, v, c, hp⟩ : ∃ g a v c, pcs t.data.toList = [g, a, v, c] := by
      match pcs t.data.toList, h4 with
      | [g, a, v, c], _ => exact ⟨g, a, v, c, rfl⟩
    by_cases hc : c = []
    · subst hc; exact parses_C s t ht g a v hp hs hcut w hm
    · exact parses_B s t ht g a v c hc hp hs hcut w hm
  exact parses_D s t ht _ rfl h3 h4 hs hcut w hm

theorem laid_met_CoordParses (os : Os) : laidMet Tryd.prog Rows.coordParsesRow.laid ((laidWorld #[.string .empty] os).forCall (fun _ _ => 0) ⟨#[], #[.string .empty], []⟩).memory :=
  laidMet_of_run' 8 (by kernel_rfl) (by kernel_rfl)
theorem reads_CoordParses (os : Os) {H : Type} (enc : TypeId × Value → H) : ∃ places, DataW.whole enc Tryd.prog ((laidWorld #[.string .empty] os).forCall (fun _ _ => 0) ⟨#[], #[.string .empty], []⟩).memory Tryd.f4.params.toList Rows.coordParsesSpec.vars false (#[.string .empty] : Array Value).toList 8 = some ([.lit (.string [])], [], places) :=
  ⟨[], by kernel_rfl⟩
set_option maxRecDepth 100000 in
theorem lifted_CoordParses (os : Os) (started : os.Started) (H : Type) (enc : TypeId × Value → H) (F : Stop.Interp) :
    ReturnsInHanded {} Tryd.checked os 4 .any ((OpenSpec.ofChange Rows.coordParsesSpec).preRow enc Tryd.prog Tryd.f4 Rows.coordParsesRow.domain false Rows.coordParsesRow.laid) (((OpenSpec.ofChange Rows.coordParsesSpec).at F).post enc Tryd.prog Tryd.f4 false true false false) := by
  obtain ⟨places, hx⟩ := reads_CoordParses os enc
  refine returnsInHanded_of_row (C := Tryd.checked) (s := OpenSpec.ofChange Rows.coordParsesSpec) own_knob started (by kernel_rfl) Tryd.func4
    (witness_row_at (enc := enc) (C := Tryd.checked) false (laidWorld #[.string .empty] os) #[.string .empty] rfl (by kernel_rfl) (by kernel_rfl) (by kernel_rfl)
      (OpenSpec.preRow_of_cond 8 hx (by kernel_rfl) (fun k hk => by cases hk) (by kernel_rfl) (laid_met_CoordParses os))) ?_
  intro W base args ds gs before hval0 hW _ _ _ _ hsh _
  have hval : ∀ (j : Nat) t v, Tryd.f4.params[j]? = some t → args[j]? = some v → Value.okWide Tryd.prog W .any base t v := hval0
  have hm : MaxOk W := maxOk_of (maxLen_cell W hsh)
  have hW' := hW
  obtain ⟨p, q, hA0, hV, rfl, _, _⟩ := hW
  have hA : DataW.TrodAll enc Tryd.prog W 0 (fun _ => true) true Tryd.f4.params.toList args.toList ds p := hA0
  rw [Tryd.params4] at hA hval
  obtain ⟨v0, vs0, d0, ds0, p0, q0, hargs, rfl, rfl, h0, r0⟩ := trodAll_cons hA
  obtain ⟨rfl, rfl, rfl⟩ := trodAll_nil r0
  obtain rfl : args = #[v0] := by cases args; simp_all
  obtain ⟨rfl, rfl⟩ := trodVars_none hV
  obtain ⟨a0, rfl, rfl, rfl, w0⟩ := open_string Tryd.underlying9 (hval 0 9 v0 rfl rfl) h0
  clear hA0 hval0
  refine (walk_CoordParses a0 (by unfold maxLen at w0; exact w0) W hm).mono fun e W' ⟨he, hb⟩ => ?_
  subst he
  exact ⟨_, rfl, law_post (by kernel_rfl) rfl rfl rfl hW' hb⟩
theorem said_CoordParses : Rows.CoordParsesSaid :=
  OpenClaim.holds_of_cond 4 Tryd.f4 rfl rfl rfl rfl rfl rfl rfl ⟨rfl, rfl, rfl, rfl, rfl⟩ rfl rfl rfl rfl rfl (by kernel_rfl) Tryd.func4 (by kernel_rfl)
    (of_decide_eq_true (by kernel_rfl)) (by unfold Func.isWrapper; first | (rw [if_pos (by decide +kernel)]; kernel_rfl) | (rw [if_neg (by decide +kernel)]; exact ⟨rfl, rfl⟩))
    (fun os started H enc _ F => by rw [OpenClaim.pre_eq_preRow]; exact lifted_CoordParses os started H enc F)
theorem plain_CoordParses (f : FuncId) (fn : Func) (hf : Tryd.pinned.checked.prog.funcNamed "pomace/pomacelaw06.CoordParses" = some f) (hfn : Tryd.pinned.checked.prog.funcs[f]? = some fn) :
    false = Tryd.pinned.checked.prog.looks [] ∧ ∀ (j : Nat) t, fn.params[j]? = some t → Tryd.pinned.checked.prog.wantsStandIn t = false := by
  obtain rfl : f = 4 := Option.some.inj ((show Tryd.prog.funcNamed "pomace/pomacelaw06.CoordParses" = some 4 by kernel_rfl).symm.trans hf) |>.symm
  obtain rfl : fn = Tryd.f4 := (Option.some.inj (Tryd.func4.symm.trans hfn)).symm
  refine ⟨by kernel_rfl, fun j t ht => ?_⟩
  rw [Tryd.params4] at ht
  have h := Array.mem_of_getElem? ht
  simp only [List.mem_toArray, List.mem_cons, List.not_mem_nil, or_false] at h
  rcases h with rfl
  all_goals first
    | exact (show Tryd.prog.wantsStandIn 9 = false by kernel_rfl)

/-- the statement of CoordParses: its card -/
theorem proved_CoordParses : Rows.CoordParsesCardSaid :=
  Claim7.holds_tied_plain_at .later [] _ _ _ _ said_CoordParses (fun _ h => by cases h) (by kernel_rfl) (fun _ h => by cases h) coordParses_row_tie rfl ⟨rfl, rfl⟩ (by kernel_rfl) rfl plain_CoordParses (by kernel_rfl)
end Go.Proofs.YtinhedegbaegnaaDoor
