/-
  Layer 5: the contracts of the reader of ranges: end, interval. Own work.
-/
import Derived.Test.YtnghagikchffiaaDoorRead5
namespace Go.Proofs.YtnghagikchffiaaDoor
set_option linter.unusedVariables false
set_option linter.unusedSimpArgs false
open Go.RowKit

/-- how many bytes at the front may stand in a version -/
def spanV (s : ByteArray) : Nat := (s.data.toList.takeWhile verB).length
theorem span_len {α : Type} (p : α → Bool) : ∀ (l : List α) (n : Nat), n ≤ l.length → (l.take n).all p = true → (∀ c, l[n]? = some c → p c = false) → (l.takeWhile p).length = n
  | [], n, h, _, _ => by simp at h; subst h; rfl
  | x :: r, 0, _, _, h => by
    have := h x rfl
    rw [List.takeWhile_cons_of_neg (by rw [this]; simp)]; rfl
  | x :: r, n + 1, h, ha, hs => by
    simp only [List.take_succ_cons, List.all_cons, Bool.and_eq_true] at ha
    rw [List.takeWhile_cons_of_pos ha.1]
    simp only [List.length_cons]
    rw [span_len p r n (by simpa using h) ha.2 (fun c hc => hs c (by simpa using hc))]
theorem may_one (c : UInt8) : mayVer (str [c]) = verB c := by
  unfold mayVer
  simp [str, ByteArray.size]
/-- the end of an interval that is read, and what is left -/
def endM (s : ByteArray) (closed : Bool) : En × ByteArray := if spanV s = 0 then (⟨false, .empty, false⟩, s) else (⟨true, s.extract 0 (spanV s), closed⟩, trimS (s.extract (spanV s) s.size))
def EndP (b : Nat) (s : ByteArray) (closed : Bool) (w : World) (e : Ending) (w' : World) : Prop := e = .returned (enV (endM s closed).1) ∧ Left5 b (endM s closed).2 w w'
theorem alloc_grown (w : World) (o : Obj) (row : Option Nat) : w.grownBy (w.alloc o) row := ⟨rfl, rfl, rfl, by simp, fun k hk _ => Below.heap_alloc _ _ _ hk⟩
theorem grown_set {w w' : World} {row : Option Nat} (h : w.grownBy w' row) (B o : Nat) (hB : w.heap.size ≤ B) (v : Value) : w.grownBy (w'.setCell ⟨B, o, none⟩ v) row :=
  ⟨h.os, h.tape, h.output, by simpa using h.size, fun k hk hr => (heap_setCell_other w' ⟨B, o, none⟩ k v (fun e => by simp only at e; omega)).trans (h.block k hk hr)⟩
theorem RB.setO {w : World} {b : Nat} {s : ByteArray} (h : RB w b s) (B o : Nat) (hB : b < B) (v : Value) : RB (w.setCell ⟨B, o, none⟩ v) b s :=
  (heap_setCell_other w ⟨B, o, none⟩ b v (fun e => by simp only at e; omega)).trans h
theorem rd_trim (w0 w : World) (b : Nat) (s : ByteArray) (k : Nat) (hs : s.size ≤ 1000000) (closed : Bool) (hT : Tabs w0 w b) :
    Calls Tryd.prog 25 #[.string (s.extract k s.size)] ((w.alloc (.cells #[.bool false, .string { data := #[] }, .bool false] 58)).alloc (.cells #[.bool true, .string (s.extract 0 k), .bool closed] 58))
      fun e w' => e = .returned (.string (trimS (s.extract k s.size))) ∧ Below (w.heap.size + 2) ((w.alloc (.cells #[.bool false, .string { data := #[] }, .bool false] 58)).alloc (.cells #[.bool true, .string (s.extract 0 k), .bool closed] 58)) w' :=
  (Trim_any (s.extract k s.size) (by rw [ByteArray.size_extract]; omega) _ ((hT.left (alloc_grown w _ _)).left (alloc_grown _ _ _)).at).mono fun e w' ⟨he, hb⟩ => ⟨he, hb.mono (by simp)⟩
theorem rd_after {w w3 : World} {b : Nat} {s : ByteArray} (h : RB w b s) (k : Nat) (closed : Bool)
    (hb : Below (w.heap.size + 2) ((w.alloc (.cells #[.bool false, .string { data := #[] }, .bool false] 58)).alloc (.cells #[.bool true, .string (s.extract 0 k), .bool closed] 58)) w3) :
    RB w3 b s ∧ w3.heap[w.heap.size]? = some (.cells #[.bool false, .string { data := #[] }, .bool false] 58 (0, 0)) ∧ w3.heap[w.heap.size + 1]? = some (.cells #[.bool true, .string (s.extract 0 k), .bool closed] 58 (0, 0)) ∧ w.grownBy w3 (some b) := by
  refine ⟨?_, ?_, ?_, ?_⟩
  · have h1 := h.below ((Below.refl w.heap.size w).alloc (Nat.le_refl _) (.cells #[.bool false, .string { data := #[] }, .bool false] 58)) (Nat.le_refl _)
    exact (h1.below ((Below.refl (w.heap.size + 1) _).alloc (by simp) (.cells #[.bool true, .string (s.extract 0 k), .bool closed] 58)) (by simp)).below hb (by simp)
  · rw [hb.block _ (by omega), Below.heap_alloc _ _ _ (by simp)]
    exact heap_alloc_new w _
  · rw [hb.block _ (by omega)]
    exact heap_alloc2_new w _ _
  · exact (alloc_grown w _ _).trans ((alloc_grown _ _ _).trans ⟨hb.os, hb.tape, hb.output, hb.size, fun i hi _ => hb.block i (by simpa using hi)⟩)
/-- three cells laid into a row of three -/
theorem row_set3 {w : World} {B : Nat} {x0 x1 x2 : Value} (y0 y1 y2 : Value) (t : TypeId) (h : w.heap[B]? = some (.cells #[x0, x1, x2] t (0, 0))) :
    (((w.setCell ⟨B, 0, none⟩ y0).setCell ⟨B, 1, none⟩ y1).setCell ⟨B, 2, none⟩ y2).heap[B]? = some (.cells #[y0, y1, y2] t (0, 0)) := by
  have h1 := heap_setCell_same w B 0 #[x0, x1, x2] t y0 h
  have h2 := heap_setCell_same _ B 1 _ t y1 h1
  have h3 := heap_setCell_same _ B 2 _ t y2 h2
  simpa using h3
theorem rd_fin {w w3 : World} {b : Nat} {s : ByteArray} {x0 x1 x2 : Value} (y0 y1 y2 : Value) (t : ByteArray) (hlt : b < w.heap.size) (h : RB w3 b s) (h2 : w3.heap[w.heap.size]? = some (.cells #[x0, x1, x2] 58 (0, 0))) (h4 : w.grownBy w3 (some b)) :
    ((((w3.setCell ⟨b, 0, none⟩ (.string t)).setCell ⟨w.heap.size, 0, none⟩ y0).setCell ⟨w.heap.size, 1, none⟩ y1).setCell ⟨w.heap.size, 2, none⟩ y2).heap[w.heap.size]? = some (.cells #[y0, y1, y2] 58 (0, 0)) ∧
      Left5 b t w ((((w3.setCell ⟨b, 0, none⟩ (.string t)).setCell ⟨w.heap.size, 0, none⟩ y0).setCell ⟨w.heap.size, 1, none⟩ y1).setCell ⟨w.heap.size, 2, none⟩ y2) := by
  refine ⟨row_set3 y0 y1 y2 _ ((heap_setCell_other w3 ⟨b, 0, none⟩ _ _ (fun e => by simp only at e; omega)).trans h2), ?_, ?_⟩
  · exact (((h.set t).setO _ 0 hlt _).setO _ 1 hlt _).setO _ 2 hlt _
  · exact grown_set (grown_set (grown_set (h4.trans (set_grown w3 b _)) _ 0 (Nat.le_refl _) _) _ 1 (Nat.le_refl _) _) _ 2 (Nat.le_refl _) _
set_option maxRecDepth 100000 in
set_option maxHeartbeats 1000000 in
theorem rdEnd_at (w0 : World) (b : Nat) (s : ByteArray) (hs : s.size ≤ 1000000) (closed : Bool) (w : World) (hT : Tabs w0 w b) (h : RB w b s) :
    Calls Tryd.prog 65 #[.pointer (some ⟨b, 0, none⟩), .bool closed] w (EndP b s closed w) := by
  have hsI : (s.size : Int) ≤ 1000000 := by omega
  have H := Lib.hid h
  have HT := Lib.hid hT
  have hlt := h.lt
  have h0b := Lib.hid hlt
  have hls : s.data.toList.length = s.size := Array.length_toList
  have hm := fun k w => MayVer_any (s.extract k (k + 1)) (by rw [ByteArray.size_extract]; omega) w
  have HM := Lib.hid hm
  have hc0 : (w.alloc (.cells #[.bool false, .string .empty, .bool false] 58)).cell? ⟨b, 0, none⟩ = some (.string s) := (h.below ((Below.refl w.heap.size w).alloc (Nat.le_refl _) _) (Nat.le_refl _)).cell
  clear hm h hT
  go_enter Tryd.func65, Tryd.ntmps65
  go_wp2_with fail
  have hcb := H.out.cell
  go_loop [5] (fun i => ∃ k : Nat, k ≤ s.size ∧ i = .int .i64 k ∧ (s.data.toList.take k).all verB = true) (fun i => s.size - (intOf i).toNat)
  case atStart => exact ⟨0, by omega, rfl, by simp⟩
  case round =>
    obtain ⟨k, hk, rfl, ha⟩ := hrel
    have HA := Lib.hid ha; clear ha
    by_cases hlt : k < s.size
    · obtain ⟨c, hc⟩ : ∃ c, s.data.toList[k]? = some c := ⟨_, List.getElem?_eq_getElem (by omega)⟩
      have hmk := fun w => HM.out k w
      rw [show s.extract k (k + 1) = str [c] from ext_one s k c hc, may_one] at hmk
      have hsl : ∀ w, (Instr.slice 9 (.string s) (some (.int .i64 k)) (some (.int .i64 ((k:Int)+1))) none).run Tryd.prog w = .ok (.string (str [c])) w := fun w => by
        rw [run_slice_string w 9 s _ _ _ _ Tryd.underlying9 (by omega) (by omega) (by omega), ← ext_one s k c hc]; rfl
      have HC := Lib.hid hc; clear hc
      generalize hv : verB c = v at hmk
      have HV := Lib.hid hv
      have HMK := Lib.hid hmk
      clear hv hmk
      have hlt' : (k : Int) < s.size := by omega
      cases v
      · have hsp : spanV s = k := span_len verB _ k (by omega) HA.out (fun d hd => by rw [HC.out] at hd; cases hd; exact HV.out)
        have HSP := Lib.hid hsp
        clear hsp
        by_cases hk0 : k = 0
        · subst hk0
          have hsl0 : ∀ w, (Instr.slice 9 (.string s) (some (.int .i64 0)) (some (.int .i64 1)) none).run Tryd.prog w = .ok (.string (str [c])) w := hsl
          clear hsl
          go_wp2_with fail
          refine (HMK.out _).mono ?_
          rintro e w2 ⟨rfl, rfl⟩
          go_wp2
          refine bodyPost_ret (results_cell_row (P := Tryd.prog) rfl _ _ w.heap.size 58 _ (0, 0) _ rfl (heap_alloc_new w _) Tryd.underlying58 rfl (by kernel_rfl)) rfl ?_
          have hend : endM s closed = (⟨false, .empty, false⟩, s) := by unfold endM; rw [if_pos HSP.out]
          unfold EndP
          rw [hend]
          exact ⟨rfl, H.out.below ((Below.refl w.heap.size w).alloc (Nat.le_refl _) _) (Nat.le_refl _), alloc_grown _ _ _⟩
        · have hend : endM s closed = (⟨true, s.extract 0 k, closed⟩, trimS (s.extract k s.size)) := by unfold endM; rw [if_neg (by rw [HSP.out]; exact hk0), HSP.out]
          have HE := Lib.hid hend
          clear hend
          go_wp2_with fail
          refine (HMK.out _).mono ?_
          rintro e w2 ⟨rfl, rfl⟩
          go_wp2_with fail
          refine (rd_trim w0 w b s k hs closed HT.out).mono ?_
          rintro e w3 ⟨rfl, hb3⟩
          obtain ⟨q1, q2, q3, q4⟩ := rd_after H.out k closed hb3
          have Q1 := Lib.hid q1
          have Q2 := Lib.hid q2
          have Q3 := Lib.hid q3
          have Q4 := Lib.hid q4
          have c3 := q1.cell
          have f3 := q1.frozen
          have e0 : w3.cell? ⟨w.heap.size + 1, 0, none⟩ = some (.bool true) := by rw [cell_of_row w3 _ 0 _ _ (0, 0) q3]; rfl
          have e1 : w3.cell? ⟨w.heap.size + 1, 1, none⟩ = some (.string (s.extract 0 k)) := by rw [cell_of_row w3 _ 1 _ _ (0, 0) q3]; rfl
          have e2 : w3.cell? ⟨w.heap.size + 1, 2, none⟩ = some (.bool closed) := by rw [cell_of_row w3 _ 2 _ _ (0, 0) q3]; rfl
          have g0 : w3.cell? ⟨w.heap.size, 0, none⟩ = some (.bool false) := by rw [cell_of_row w3 _ 0 _ _ (0, 0) q2]; rfl
          have g1 : w3.cell? ⟨w.heap.size, 1, none⟩ = some (.string .empty) := by rw [cell_of_row w3 _ 1 _ _ (0, 0) q2]; rfl
          have g2 : w3.cell? ⟨w.heap.size, 2, none⟩ = some (.bool false) := by rw [cell_of_row w3 _ 2 _ _ (0, 0) q2]; rfl
          have z0 : w3.frozen? ⟨w.heap.size, 0, none⟩ = false := frozen_of_row w3 _ 0 _ _ q2
          have z1 : w3.frozen? ⟨w.heap.size, 1, none⟩ = false := frozen_of_row w3 _ 1 _ _ q2
          have z2 : w3.frozen? ⟨w.heap.size, 2, none⟩ = false := frozen_of_row w3 _ 2 _ _ q2
          have nb : ¬ b = w.heap.size := by omega
          have nb2 : ¬ b = w.heap.size + 1 := by omega
          clear q1 q2 q3 q4 hb3 hcb hc0
          go_wp2
          obtain ⟨r1, r2⟩ := rd_fin (.bool true) (.string (s.extract 0 k)) (.bool closed) (trimS (s.extract k s.size)) h0b.out Q1.out Q2.out Q4.out
          refine bodyPost_ret (results_cell_row (P := Tryd.prog) rfl _ _ w.heap.size 58 _ (0, 0) _ rfl r1 Tryd.underlying58 rfl (by kernel_rfl)) rfl ?_
          unfold EndP
          rw [HE.out]
          exact ⟨rfl, r2⟩
      · go_wp2_with fail
        refine (HMK.out _).mono ?_
        rintro e w2 ⟨rfl, rfl⟩
        go_wp2
        exact ⟨⟨k + 1, by omega, by go_num, all_take HC.out HV.out HA.out⟩, by simp [intOf]; omega⟩
    · have hsp : spanV s = k := span_len verB _ k (by omega) HA.out (fun d hd => by rw [List.getElem?_eq_none (by omega)] at hd; cases hd)
      have HSP := Lib.hid hsp
      have hks : (s.size : Int) ≤ k := by omega
      clear hsp
      by_cases hk0 : k = 0
      · subst hk0
        go_wp2
        refine bodyPost_ret (results_cell_row (P := Tryd.prog) rfl _ _ w.heap.size 58 _ (0, 0) _ rfl (heap_alloc_new w _) Tryd.underlying58 rfl (by kernel_rfl)) rfl ?_
        have hend : endM s closed = (⟨false, .empty, false⟩, s) := by unfold endM; rw [if_pos HSP.out]
        unfold EndP
        rw [hend]
        exact ⟨rfl, H.out.below ((Below.refl w.heap.size w).alloc (Nat.le_refl _) _) (Nat.le_refl _), alloc_grown _ _ _⟩
      · have hend : endM s closed = (⟨true, s.extract 0 k, closed⟩, trimS (s.extract k s.size)) := by unfold endM; rw [if_neg (by rw [HSP.out]; exact hk0), HSP.out]
        have HE := Lib.hid hend
        clear hend
        go_wp2_with fail
        refine (rd_trim w0 w b s k hs closed HT.out).mono ?_
        rintro e w3 ⟨rfl, hb3⟩
        obtain ⟨q1, q2, q3, q4⟩ := rd_after H.out k closed hb3
        have Q1 := Lib.hid q1
        have Q2 := Lib.hid q2
        have Q3 := Lib.hid q3
        have Q4 := Lib.hid q4
        have c3 := q1.cell
        have f3 := q1.frozen
        have e0 : w3.cell? ⟨w.heap.size + 1, 0, none⟩ = some (.bool true) := by rw [cell_of_row w3 _ 0 _ _ (0, 0) q3]; rfl
        have e1 : w3.cell? ⟨w.heap.size + 1, 1, none⟩ = some (.string (s.extract 0 k)) := by rw [cell_of_row w3 _ 1 _ _ (0, 0) q3]; rfl
        have e2 : w3.cell? ⟨w.heap.size + 1, 2, none⟩ = some (.bool closed) := by rw [cell_of_row w3 _ 2 _ _ (0, 0) q3]; rfl
        have g0 : w3.cell? ⟨w.heap.size, 0, none⟩ = some (.bool false) := by rw [cell_of_row w3 _ 0 _ _ (0, 0) q2]; rfl
        have g1 : w3.cell? ⟨w.heap.size, 1, none⟩ = some (.string .empty) := by rw [cell_of_row w3 _ 1 _ _ (0, 0) q2]; rfl
        have g2 : w3.cell? ⟨w.heap.size, 2, none⟩ = some (.bool false) := by rw [cell_of_row w3 _ 2 _ _ (0, 0) q2]; rfl
        have z0 : w3.frozen? ⟨w.heap.size, 0, none⟩ = false := frozen_of_row w3 _ 0 _ _ q2
        have z1 : w3.frozen? ⟨w.heap.size, 1, none⟩ = false := frozen_of_row w3 _ 1 _ _ q2
        have z2 : w3.frozen? ⟨w.heap.size, 2, none⟩ = false := frozen_of_row w3 _ 2 _ _ q2
        have nb : ¬ b = w.heap.size := by omega
        have nb2 : ¬ b = w.heap.size + 1 := by omega
        clear q1 q2 q3 q4 hb3 hcb hc0
        go_wp2
        obtain ⟨r1, r2⟩ := rd_fin (.bool true) (.string (s.extract 0 k)) (.bool closed) (trimS (s.extract k s.size)) h0b.out Q1.out Q2.out Q4.out
        refine bodyPost_ret (results_cell_row (P := Tryd.prog) rfl _ _ w.heap.size 58 _ (0, 0) _ rfl r1 Tryd.underlying58 rfl (by kernel_rfl)) rfl ?_
        unfold EndP
        rw [HE.out]
        exact ⟨rfl, r2⟩
end Go.Proofs.YtnghagikchffiaaDoor
