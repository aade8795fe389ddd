/-
  strings.Builder at this translation, with the frame above the builder: the three writing steps (the check, WriteByte, WriteString), over the library's word for a builder of the call's own. Own work.
-/
import Derived.Test.YthfholnnkdoagaaBase
import Derived.Test.YthfholnnkdoagaaShelf
import Derived.Lib.OthersKept
namespace Go.Proofs.Ythfholnnkdoagaa
set_option linter.unusedVariables false
set_option linter.unusedSimpArgs false
open Go.RowKit

theorem buk_size : (Try.prog.info? 92).map (·.size) = some 2 := by kernel_rfl
theorem buk_lies : liesAt Try.prog Try.prog.depth 92 (2 / Try.prog.cellsOf 92) 0 92 1 = true := by kernel_rfl
theorem buk_byte : (Try.prog.info? 5).map (fun i => (i.zero, i.size, i.bytes)) = some (some (.int .u8 0), 1, 1) := by kernel_rfl

/-- block b is a builder of the call's own that holds the bytes l -/
def Bld (B b : Nat) (l : List UInt8) (w : World) : Prop := Lib.IsBuilder 92 5 B b (Lib.byteCells l) w

theorem buk_check (B b : Nat) (bs : List Value) (w : World) (h : Lib.IsBuilder 92 5 B b bs w) :
    Calls Try.prog 56 #[.pointer (some ⟨b, 0, none⟩)] w fun e w' => e = .returned (.tuple #[]) ∧ Lib.BuilderAt 92 5 B b (.pointer (some ⟨b, 0, none⟩)) bs w' ∧ Below B w w' ∧ Lib.OthersKept 5 (some b) w w' := by
  obtain ⟨j, hj, hjs⟩ := Option.map_eq_some_iff.1 buk_size
  rcases h with h | h
  · have h0 := h.cell0
    have hsh := h.shape
    have hfz := h.frozen0
    have HB := Lib.hid h
    have s1 : ∀ w : World, w.shape? b = some (92, 2) → (convert 90 110 (.pointer (some ⟨b, 0, none⟩))).run Try.prog w = .ok (.pointer (some ⟨b, 0, none⟩)) w := fun w hs =>
      Lib.run_to_unsafe w ⟨b, 0, none⟩ Try.underlying90 Try.underlying110 hj (by rw [hjs]; decide) hs (Nat.zero_lt_succ 1)
    have s3 : ∀ w : World, w.shape? b = some (92, 2) → (convert 110 90 (.pointer (some ⟨b, 0, none⟩))).run Try.prog w = .ok (.pointer (some ⟨b, 0, none⟩)) w := fun w hs =>
      Lib.run_from_unsafe w ⟨b, 0, none⟩ Try.underlying110 Try.underlying90 hj hs buk_lies
    have t1 := s1 w hsh
    have t3 := s3 w hsh
    clear h s1 s3
    go_enter Try.func56, Try.ntmps56
    go_wp2
    rw [run_callFunc_extern Try.func60 (by kernel_rfl) (by kernel_rfl) (by kernel_rfl) (e := Extern.AbiNoEscape.same) (by kernel_rfl), Lib.run_noEscape]
    simp only [Result.andThen]
    rw [Oper.upon_value]
    go_wp2
    go_end0
    exact ⟨rfl, HB.out.used _, (Below.refl B w).setCell (p := ⟨b, 0, none⟩) HB.out.1 _, (Lib.OthersKept.refl _ _ w).setCell ⟨b, 0, none⟩ rfl _⟩
  · have h0 := h.cell0
    have HB := Lib.hid h
    have hne := Lib.run_neq_ptr_same w (⟨b, 0, none⟩ : Addr) Try.underlying90 hj
    clear h
    go_enter Try.func56, Try.ntmps56
    go_wp2
    go_end0
    exact ⟨rfl, HB.out, Below.refl B w, Lib.OthersKept.refl _ _ w⟩

theorem own_tag {w : World} {base e n s : Nat} {v : Value} {xs : List Value} (h : w.ownsRow base e s v n xs) : ∀ k, v.ownBlock = some k → ∃ c fz, w.heap[k]? = some (.cells c e fz) := by
  intro k hk
  rcases h.2 with ⟨rfl, _⟩ | ⟨g, cap, cur, rfl, _, hg, _⟩
  · simp [Value.ownBlock] at hk
  · have : g = k := by simpa [Value.ownBlock] using hk
    subst this
    exact ⟨_, _, hg⟩
theorem buk_block {T e : TypeId} {B b : Nat} {p : Value} {bs : List Value} {w w2 : World} {v : Value} (hbk : w.heap[b]? = some (.cells #[p, v] T (0, 0))) (hg : w.grownBy w2 v.ownBlock) (hne : v.ownBlock ≠ some b) : w2.heap[b]? = some (.cells #[p, v] T (0, 0)) := by
  have hlt : b < w.heap.size := (Array.getElem?_eq_some_iff.1 hbk).1
  rw [hg.block b hlt (fun e => hne e.symm)]
  exact hbk


theorem buk_writeString (B b : Nat) (l : List UInt8) (s : ByteArray) (w : World) (h : Bld B b l w) (hl : l.length + s.size ≤ 1000000000) (hB : B ≤ w.heap.size) :
    Calls Try.prog 48 #[.pointer (some ⟨b, 0, none⟩), .string s] w fun e w' => e = .returned (.tuple #[.int .i64 s.size, .nilIface]) ∧ Bld B b (l ++ s.data.toList) w' ∧ Below B w w' ∧ Lib.OthersKept 5 (some b) w w' := by
  have hcells : (Lib.byteCells l).length = l.length := by simp [Lib.byteCells]
  obtain ⟨i0, hi, hz0, hz1, hz2⟩ := info_parts buk_byte
  go_enter Try.func48, Try.ntmps48
  go_wp2_with fail
  refine (buk_check B b _ _ h).mono ?_
  rintro e w1 ⟨rfl, h1, hb1, hk1⟩
  have HK1 := Lib.hid hk1; clear hk1
  obtain ⟨hBb, v, hbk, hown, hne⟩ := h1
  rw [hcells] at hown
  have c0 : w1.cell? ⟨b, 0, none⟩ = some (.pointer (some ⟨b, 0, none⟩)) := by rw [Lib.cell_of_heap hbk]; rfl
  have c1 : w1.cell? ⟨b, 1, none⟩ = some v := by rw [Lib.cell_of_heap hbk]; rfl
  have hsz := hb1.size
  have HBK := Lib.hid hbk; clear hbk
  have HNE := Lib.hid hne; clear hne
  go_wp2_with (at_builtin
               refine Lib.wpList_append_own_string _ rfl _ _ 57 9 rfl B 5 i0 Try.underlying57 Try.underlying9 hi hz0 hz1 hz2 v _ _ rfl hown s rfl (by unfold maxLen; omega) (by omega) (by omega) ?_)
  intro v1 w2 ho1 hg1 _
  have HK2 := Lib.hid (HK1.out.grown hg1 (own_tag hown)); clear HK1
  have hlt : ∀ k, v.ownBlock = some k → B ≤ k := fun k hk => (hown.lt k hk).1
  have hbk2 := buk_block (bs := []) (T := 92) (e := 5) (B := B) HBK.out hg1 HNE.out
  have d0 : w2.cell? ⟨b, 0, none⟩ = some (.pointer (some ⟨b, 0, none⟩)) := by rw [Lib.cell_of_heap hbk2]; rfl
  have d1 : w2.cell? ⟨b, 1, none⟩ = some v := by rw [Lib.cell_of_heap hbk2]; rfl
  have f1 : w2.frozen? ⟨b, 1, none⟩ = false := Lib.frozen_of_heap hbk2 1
  have HBK2 := Lib.hid hbk2; clear hbk2
  have HLT := Lib.hid hlt; clear hlt
  obtain ⟨ao, n', cap, rfl⟩ : ∃ ao n' cap, v1 = .slice ao n' cap := by
    rcases ho1.2 with ⟨hv, _⟩ | ⟨g, cap, cur, hv, _⟩
    · exact ⟨_, _, _, hv⟩
    · exact ⟨_, _, _, hv⟩
  go_wp2
  go_ret2
  refine ⟨rfl, ?_, ?_, HK2.out.setCell ⟨b, 1, none⟩ rfl _⟩
  · exact .inr (Lib.BuilderAt.put (T := 92) (e := 5) hBb HBK2.out (bs' := Lib.byteCells (l ++ s.data.toList)) (by simpa [Lib.byteCells, Lib.strCells] using ho1) (by decide))
  · exact (hb1.grown hg1 (by omega) HLT.out).setCell (p := ⟨b, 1, none⟩) hBb _

end Go.Proofs.Ythfholnnkdoagaa
