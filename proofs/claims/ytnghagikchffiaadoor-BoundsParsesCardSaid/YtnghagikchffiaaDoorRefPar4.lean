/-
  Layer 4: the contract of the answer's Parts. Own work.
-/
import Derived.Test.YtnghagikchffiaaDoorRefBit4
import Derived.Laws.OwnMore
import Derived.BigQuiet
import Derived.RegionTactic
import Derived.BigRegion
namespace Go.Proofs.YtnghagikchffiaaDoor
set_option linter.unusedVariables false
set_option linter.unusedSimpArgs false
open Go.RowKit

theorem rt_info : (Tryd.prog.info? 73).map (fun i => (i.zero, i.size, i.bytes)) = some (some (.agg #[.bool false, .bool false, .string ⟨#[]⟩]), 3, 24) := by kernel_rfl
theorem rb_info : (Tryd.prog.info? 4).map (fun i => (i.zero, i.size, i.bytes)) = some (some (.bool false), 1, 1) := by kernel_rfl
/-- rows of other element types are of other blocks -/
theorem own_apart {w : World} {b1 b2 e1 e2 n1 n2 s1 s2 : Nat} {v1 v2 : Value} {x1 x2 : List Value} (h1 : w.ownsRow b1 e1 s1 v1 n1 x1) (h2 : w.ownsRow b2 e2 s2 v2 n2 x2) (he : e1 ≠ e2) : v1.ownBlock = none ∨ v1.ownBlock ≠ v2.ownBlock := by
  cases hv : v1.ownBlock with
  | none => exact .inl rfl
  | some k =>
    refine .inr fun hh => ?_
    obtain ⟨c1, f1, hc1⟩ := own_tag h1 k hv
    obtain ⟨c2, f2, hc2⟩ := own_tag h2 k hh.symm
    rw [hc1] at hc2
    injection hc2 with hc2
    injection hc2 with _ hc2 _
    exact he hc2

/-- the piece under way lies in a block of its own -/
def pv (b : Nat) : Value := .slice (some ⟨b, 0, none⟩) 1 1
def Pc (B b : Nat) (wd h : Bool) (t : List UInt8) (w : World) : Prop := w.ownsRow B 73 3 (pv b) 1 [.bool wd, .bool h, .string (str t)]
theorem Pc.cells {B b : Nat} {wd h : Bool} {t : List UInt8} {w : World} (hp : Pc B b wd h t w) : w.cell? ⟨b, 0, none⟩ = some (.bool wd) ∧ w.cell? ⟨b, 1, none⟩ = some (.bool h) ∧ w.cell? ⟨b, 2, none⟩ = some (.string (str t)) ∧ (∀ j, w.frozen? ⟨b, j, none⟩ = false) ∧ b < w.heap.size :=
  ⟨World.ownsRow.cellAt hp 0 (by omega), World.ownsRow.cellAt hp 1 (by omega), World.ownsRow.cellAt hp 2 (by omega), World.ownsRow.frozenAt hp, (World.ownsRow.lt hp b rfl).2⟩
theorem Pc.word {B b : Nat} {wd h : Bool} {t : List UInt8} {w : World} (hp : Pc B b wd h t w) (x : Bool) : Pc B b x h t (w.setCell ⟨b, 0, none⟩ (.bool x)) ∧ w.grownBy (w.setCell ⟨b, 0, none⟩ (.bool x)) (some b) := World.ownsRow.stored hp 0 _
theorem Pc.text {B b : Nat} {wd h : Bool} {t : List UInt8} {w : World} (hp : Pc B b wd h t w) (u : List UInt8) : Pc B b wd h u (w.setCell ⟨b, 2, none⟩ (.string (str u))) ∧ w.grownBy (w.setCell ⟨b, 2, none⟩ (.string (str u))) (some b) := World.ownsRow.stored hp 2 _
def rwCells (r : Rw) : List Value := [.bool (!numP r.tx), .bool r.hy, .string (str r.tx)]
def rowW (R : List Rw) : List Value := R.flatMap rwCells
def rowN (R : List Rw) : List Value := R.map fun r => .bool r.near
/-- what the first loop keeps -/
def Lo1 (B b : Nat) (s : List UInt8) (lv nv dv iv : Value) (wr : World) : Prop :=
  ∃ (k : Nat) (R : List Rw) (t : List UInt8) (h : Bool), k ≤ s.length + 1 ∧ iv = .int .i64 k ∧ dv = .int .i64 (digs t) ∧ wr.ownsRow (b + 1) 73 3 lv R.length (rowW R) ∧ wr.ownsRow B 4 1 nv R.length (rowN R) ∧ Pc B b false h t wr ∧
    R.length ≤ k ∧ t.length ≤ k ∧ (k ≤ s.length → RawAt (s.map lowB) k R t h) ∧ (k = s.length + 1 → R.map finR = parts0 (s.map lowB))
set_option maxRecDepth 100000 in
theorem conv1 (b : UInt8) (W : World) : (convert 83 9 (.slice (some ⟨W.heap.size, 0, none⟩) 1 1)).run Tryd.prog (W.alloc (.cells #[.int .u8 (b.toNat : Int)] 5)) = .ok (.string (str [b])) (W.alloc (.cells #[.int .u8 (b.toNat : Int)] 5)) := by
  have h := run_convert_bytes_arg (P := Tryd.prog) (W.alloc (.cells #[.int .u8 (b.toNat : Int)] 5)) 83 5 Tryd.underlying83 Tryd.underlying5 W.heap.size 0 1 1 [(b.toNat : Int)] rfl (fun i hi => by
    have : i = 0 := by omega
    subst this
    rw [World.cell?_alloc_at _ _ _ _ rfl]
    rfl) 9 Tryd.underlying9
  rw [h]
  congr 2
  unfold strOfNums str
  simp
/-- a longer text in the piece under way -/
theorem keep_text {B b n1 n2 : Nat} {lv nv : Value} {x1 x2 : List Value} {h : Bool} {t : List UInt8} {w wr : World} (hB : B ≤ b) (hol : wr.ownsRow (b + 1) 73 3 lv n1 x1) (hon : wr.ownsRow B 4 1 nv n2 x2) (hpc : Pc B b false h t wr) (hbel : Below B w wr) (hBz : B ≤ wr.heap.size) (o : Obj) (u : List UInt8) :
    ((wr.alloc o).setCell ⟨b, 2, none⟩ (.string (str u))).ownsRow (b + 1) 73 3 lv n1 x1 ∧ ((wr.alloc o).setCell ⟨b, 2, none⟩ (.string (str u))).ownsRow B 4 1 nv n2 x2 ∧ Pc B b false h u ((wr.alloc o).setCell ⟨b, 2, none⟩ (.string (str u))) ∧ Below B w ((wr.alloc o).setCell ⟨b, 2, none⟩ (.string (str u))) := by
  have hp2 : Pc B b false h t (wr.alloc o) := World.ownsRow.alloc hpc o
  refine ⟨ownsRow_setCell_below (hol.alloc o) (by simp) _, (hon.alloc o).kept (hp2.text u).2 (own_apart (hon.alloc o) hp2 (by decide)), (hp2.text u).1, (hbel.alloc hBz o).setCell (p := ⟨b, 2, none⟩) hB _⟩
theorem getD_some {l : List UInt8} {k : Nat} {c : UInt8} (h : l[k]? = some c) : l.getD k 0 = c := by
  rw [List.getD_eq_getElem?_getD, h]; rfl
/-- a further byte of the piece under way -/
theorem lo1_same {B b k : Nat} {l : List UInt8} {R : List Rw} {t : List UInt8} {h : Bool} {c : UInt8} {lv nv : Value} {w wr : World} (hB : B ≤ b) (hBz : B ≤ wr.heap.size) (hc : l[k]? = some c) (hcut : isCut c = false)
    (hraw : k ≤ l.length → RawAt (l.map lowB) k R t h) (hd : t.length = 0 ∨ (1 ≤ k ∧ isDg c = isDg (l.getD (k - 1) 0))) (hRk : R.length ≤ k) (htk : t.length ≤ k)
    (hol : wr.ownsRow (b + 1) 73 3 lv R.length (rowW R)) (hon : wr.ownsRow B 4 1 nv R.length (rowN R)) (hpc : Pc B b false h t wr) (hbel : Below B w wr) (o : Obj) (m : Nat) (d : Int) (hdv : d = digs t + (if isDg c then 1 else 0)) :
    Lo1 B b l lv nv (.int .i64 d) (.int .i64 ((k : Int) + 1)) (((wr.drewN m).alloc o).setCell ⟨b, 2, none⟩ (.string (str (t ++ [lowB c])))) ∧ Below B w (((wr.drewN m).alloc o).setCell ⟨b, 2, none⟩ (.string (str (t ++ [lowB c])))) := by
  have hk : k < l.length := (List.getElem?_eq_some_iff.1 hc).1
  obtain ⟨h1, h2, h3, h4⟩ := keep_text (wr := wr.drewN m) hB hol hon hpc (below_drewN hbel m) hBz o (t ++ [lowB c])
  have hgd := getD_some hc
  have hlk := low_getD hk
  rw [hgd] at hlk
  have hr := raw_same (hraw (by omega)) (by simpa using hk) (by rw [hlk, (low_cut c).1]; exact hcut) (by
    rcases hd with hd | ⟨hd1, hd⟩
    · exact .inl hd
    · refine .inr ?_
      rw [hlk, low_getD (by omega), (low_cut c).2.1, (low_cut _).2.1]
      exact hd)
  rw [hlk] at hr
  refine ⟨⟨k + 1, R, t ++ [lowB c], h, by omega, by simp, ?_, h1, h2, h3, by omega, by simp; omega, fun _ => hr, fun hh => by omega⟩, h4⟩
  rw [hdv, digs_snoc, (low_cut c).2.1]
  cases isDg c <;> simp
theorem digs_le (t : List UInt8) : digs t ≤ t.length := List.countP_le_length
theorem pc_apart {b e s n : Nat} {w : World} {v : Value} {xs : List Value} (hol : w.ownsRow (b + 1) e s v n xs) : (pv b).ownBlock = none ∨ (pv b).ownBlock ≠ v.ownBlock :=
  .inr fun h => by have := (hol.lt b h.symm).1; omega
/-- the piece under way begun anew -/
def fresh (w : World) (b : Nat) (h : Bool) : World := ((w.setCell ⟨b, 0, none⟩ (.bool false)).setCell ⟨b, 1, none⟩ (.bool h)).setCell ⟨b, 2, none⟩ (.string (str []))
theorem keep_fresh {B b n1 n2 : Nat} {lv nv : Value} {x1 x2 : List Value} {wd h : Bool} {t : List UInt8} {w wr : World} (hB : B ≤ b) (hol : wr.ownsRow (b + 1) 73 3 lv n1 x1) (hon : wr.ownsRow B 4 1 nv n2 x2) (hpc : Pc B b wd h t wr) (hbel : Below B w wr) (h' : Bool) :
    (fresh wr b h').ownsRow (b + 1) 73 3 lv n1 x1 ∧ (fresh wr b h').ownsRow B 4 1 nv n2 x2 ∧ Pc B b false h' [] (fresh wr b h') ∧ Below B w (fresh wr b h') := by
  obtain ⟨p1, g1⟩ := World.ownsRow.stored hpc 0 (.bool false)
  obtain ⟨p2, g2⟩ := World.ownsRow.stored p1 1 (.bool h')
  obtain ⟨p3, g3⟩ := World.ownsRow.stored p2 2 (.string (str []))
  have a1 : nv.ownBlock = none ∨ nv.ownBlock ≠ some b := own_apart hon hpc (by decide)
  refine ⟨ownsRow_setCell_below (ownsRow_setCell_below (ownsRow_setCell_below hol (by simp) _) (by simp) _) (by simp) _, ((hon.kept g1 a1).kept g2 a1).kept g3 a1, p3, ?_⟩
  exact ((hbel.setCell (p := ⟨b, 0, none⟩) hB _).setCell (p := ⟨b, 1, none⟩) hB _).setCell (p := ⟨b, 2, none⟩) hB _
theorem rowW_snoc (R : List Rw) (r : Rw) : rowW (R ++ [r]) = rowW R ++ [.bool (!numP r.tx), .bool r.hy, .string (str r.tx)] := by simp [rowW, rwCells]
theorem rowN_snoc (R : List Rw) (r : Rw) : rowN (R ++ [r]) = rowN R ++ [.bool r.near] := by simp [rowN]
/-- a piece ended at the text's end -/
theorem lo1_end {B b k : Nat} {l : List UInt8} {R : List Rw} {t : List UInt8} {wd h : Bool} {lv nv : Value} {w w3 : World} (hB : B ≤ b) (hk : k = l.length) (hr : k ≤ l.length → RawAt (l.map lowB) k R t h) (hwd : wd = !numP t) (hRk : R.length ≤ k)
    (ho : w3.ownsRow (b + 1) 73 3 lv (R.length + 1) (rowW R ++ [.bool wd, .bool h, .string (str t)])) (hn : w3.ownsRow B 4 1 nv (R.length + 1) (rowN R ++ [.bool false])) (hp : Pc B b wd h t w3) (hbel : Below B w w3) :
    Lo1 B b l lv nv (.int .i64 0) (.int .i64 ((k : Int) + 1)) (fresh w3 b false) ∧ Below B w (fresh w3 b false) := by
  obtain ⟨h1, h2, h3, h4⟩ := keep_fresh hB ho hn hp hbel false
  subst hwd
  have hr2 := hr (by omega)
  refine ⟨⟨k + 1, R ++ [⟨h, false, t⟩], [], false, by omega, by simp, rfl, ?_, ?_, h3, by simp; omega, by simp, fun hh => by omega, fun _ => ?_⟩, h4⟩
  · rw [rowW_snoc, List.length_append]; exact h1
  · rw [rowN_snoc, List.length_append]; exact h2
  · have hlen : (l.map lowB).length = k := by simp [hk]
    rw [← hlen] at hr2
    exact raw_end hr2
/-- a piece ended at a dot or a hyphen -/
theorem lo1_cut {B b k : Nat} {l : List UInt8} {R : List Rw} {t : List UInt8} {wd h h' : Bool} {c : UInt8} {lv nv : Value} {w w3 : World} (hB : B ≤ b) (hc : l[k]? = some c) (hcut : isCut c = true) (hh : h' = (c == 45)) (hr : k ≤ l.length → RawAt (l.map lowB) k R t h) (hwd : wd = !numP t) (hRk : R.length ≤ k)
    (ho : w3.ownsRow (b + 1) 73 3 lv (R.length + 1) (rowW R ++ [.bool wd, .bool h, .string (str t)])) (hn : w3.ownsRow B 4 1 nv (R.length + 1) (rowN R ++ [.bool false])) (hp : Pc B b wd h t w3) (hbel : Below B w w3) :
    Lo1 B b l lv nv (.int .i64 0) (.int .i64 ((k : Int) + 1)) (fresh w3 b h') ∧ Below B w (fresh w3 b h') := by
  have hk : k < l.length := (List.getElem?_eq_some_iff.1 hc).1
  obtain ⟨h1, h2, h3, h4⟩ := keep_fresh hB ho hn hp hbel h'
  subst hwd
  have hlk := low_getD hk
  rw [getD_some hc] at hlk
  have hr2 := raw_cut (hr (by omega)) (by rw [hlk, (low_cut c).1]; exact hcut)
  rw [hlk, (low_cut c).2.2, ← hh] at hr2
  refine ⟨⟨k + 1, R ++ [⟨h, false, t⟩], [], h', by omega, by simp, rfl, ?_, ?_, h3, by simp; omega, by simp, fun _ => hr2, fun hh => by omega⟩, h4⟩
  · rw [rowW_snoc, List.length_append]; exact h1
  · rw [rowN_snoc, List.length_append]; exact h2
/-- a piece ended where digits meet other bytes, and the first byte of the next one -/
theorem lo1_joint {B b k : Nat} {l : List UInt8} {R : List Rw} {t : List UInt8} {wd h : Bool} {c d : UInt8} {lv nv : Value} {w w3 : World} (hB : B ≤ b) (hc : l[k]? = some c) (hd : l[k - 1]? = some d) (hk1 : 1 ≤ k) (hcut : isCut c = false) (ht : 0 < t.length) (hne : isDg c ≠ isDg d) (hr : k ≤ l.length → RawAt (l.map lowB) k R t h) (hwd : wd = !numP t) (hRk : R.length ≤ k)
    (ho : w3.ownsRow (b + 1) 73 3 lv (R.length + 1) (rowW R ++ [.bool wd, .bool h, .string (str t)])) (hn : w3.ownsRow B 4 1 nv (R.length + 1) (rowN R ++ [.bool true])) (hp : Pc B b wd h t w3) (hbel : Below B w w3) (o : Obj) (m : Nat) (dv : Int) (hdv : dv = if isDg c then 1 else 0) :
    Lo1 B b l lv nv (.int .i64 dv) (.int .i64 ((k : Int) + 1)) ((((fresh w3 b true).drewN m).alloc o).setCell ⟨b, 2, none⟩ (.string (str [lowB c]))) ∧ Below B w ((((fresh w3 b true).drewN m).alloc o).setCell ⟨b, 2, none⟩ (.string (str [lowB c]))) := by
  have hk : k < l.length := (List.getElem?_eq_some_iff.1 hc).1
  obtain ⟨a1, a2, a3, a4⟩ := keep_fresh hB ho hn hp hbel true
  have hz : B ≤ ((fresh w3 b true).drewN m).heap.size := by
    have := (World.ownsRow.lt a3 b rfl).2
    show B ≤ (fresh w3 b true).heap.size
    omega
  obtain ⟨h1, h2, h3, h4⟩ := keep_text (wr := (fresh w3 b true).drewN m) hB a1 a2 a3 (below_drewN a4 m) hz o [lowB c]
  subst hwd
  have hlk := low_getD hk
  rw [getD_some hc] at hlk
  have hlk1 := low_getD (s := l) (k := k - 1) (by omega)
  rw [getD_some hd] at hlk1
  have hr2 := raw_joint (hr (by omega)) (by simpa using hk) (by rw [hlk, (low_cut c).1]; exact hcut) ht (by rw [hlk, hlk1, (low_cut c).2.1, (low_cut d).2.1]; exact hne)
  rw [hlk] at hr2
  refine ⟨⟨k + 1, R ++ [⟨h, true, t⟩], [lowB c], true, by omega, by simp, ?_, ?_, ?_, h3, by simp; omega, by simp, fun _ => hr2, fun hh => by omega⟩, h4⟩
  · rw [hdv]
    have := digs_snoc [] (lowB c)
    rw [List.nil_append, (low_cut c).2.1] at this
    rw [this]
    cases isDg c <;> rfl
  · rw [rowW_snoc, List.length_append]; exact h1
  · rw [rowN_snoc, List.length_append]; exact h2
/-- what lies there as the first loop begins -/
theorem lo1_zero {l : List UInt8} (w : World) : Lo1 w.heap.size (w.heap.size + 1) l (.slice none 0 0) (.slice (some ⟨w.heap.size, 0, none⟩) 0 0) (.int .i64 0) (.int .i64 0) ((w.alloc (.cells #[] 4)).alloc (.cells #[.bool false, .bool false, .string ⟨#[]⟩] 73)) ∧
    Below w.heap.size w ((w.alloc (.cells #[] 4)).alloc (.cells #[.bool false, .bool false, .string ⟨#[]⟩] 73)) := by
  have hn := (World.ownsRow_lit (base := w.heap.size) (e := 4) (size := 1) w #[] 0 (Nat.le_refl _) (by unfold maxLen; omega) rfl).alloc (.cells #[.bool false, .bool false, .string ⟨#[]⟩] 73)
  have hp := World.ownsRow_lit (base := w.heap.size) (e := 73) (size := 3) (w.alloc (.cells #[] 4)) #[.bool false, .bool false, .string ⟨#[]⟩] 1 (by simp) (by unfold maxLen; omega) rfl
  have hs : (w.alloc (.cells #[] 4)).heap.size = w.heap.size + 1 := by simp
  rw [hs] at hp
  exact ⟨⟨0, [], [], false, by omega, rfl, rfl, World.ownsRow_nil _ _ _ _, hn, hp, by simp, by simp, fun _ => raw_zero _, fun h => by omega⟩, ((Below.refl _ _).alloc (Nat.le_refl _) _).alloc (by simp) _⟩
end Go.Proofs.YtnghagikchffiaaDoor
