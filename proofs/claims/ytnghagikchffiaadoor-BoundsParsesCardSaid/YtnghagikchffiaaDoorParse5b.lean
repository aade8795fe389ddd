/-
  Layer 5: the contract of Parse. Own work.
-/
import Derived.Test.YtnghagikchffiaaDoorParseR
import Derived.Test.YtnghagikchffiaaDoorRead5d
import Derived.Test.YtnghagikchffiaaDoorMay5b
namespace Go.Proofs.YtnghagikchffiaaDoor
set_option linter.unusedVariables false
set_option linter.unusedSimpArgs false
open Go.RowKit

/-- the range that is read; none: it is none -/
def parseM (s : ByteArray) : Option (Bool × ByteArray × List Iv) :=
  if nextS (trimS s) = 91 ∨ nextS (trimS s) = 40 then (match ivAll (trimS s) with | some l => if mayB true .empty l then some (true, .empty, l) else none | none => none)
  else if mayB false (trimS s) [] then some (false, trimS s, []) else none
def ParseP (s : ByteArray) (w : World) (e : Ending) (w' : World) : Prop :=
  Below w.heap.size w w' ∧ ((∃ hard ver l pv, parseM s = some (hard, ver, l) ∧ e = .returned (.tuple #[.agg #[.bool hard, .string ver, pv], .int .i64 0]) ∧ RdI w' pv l ∧ (∀ p ∈ l, smallI p) ∧ ver.size ≤ 100000) ∨
    (parseM s = none ∧ e = .returned (.tuple #[.agg #[.bool false, .string .empty, .slice none 0 0], .int .i64 21])))
theorem res_set {w w4 : World} {x0 x1 x2 y : Value} (hR : w4.heap[w.heap.size]? = some (.cells #[x0, x1, x2] 25 (0, 0))) (hE : w4.heap[w.heap.size + 1]? = some (.cells #[y] 26 (0, 0))) (hb : Below w.heap.size w w4) (y0 y1 y2 : Value) :
    (((w4.setCell ⟨w.heap.size, 0, none⟩ y0).setCell ⟨w.heap.size, 1, none⟩ y1).setCell ⟨w.heap.size, 2, none⟩ y2).heap[w.heap.size]? = some (.cells #[y0, y1, y2] 25 (0, 0)) ∧
    (((w4.setCell ⟨w.heap.size, 0, none⟩ y0).setCell ⟨w.heap.size, 1, none⟩ y1).setCell ⟨w.heap.size, 2, none⟩ y2).heap[w.heap.size + 1]? = some (.cells #[y] 26 (0, 0)) ∧
    Below w.heap.size w (((w4.setCell ⟨w.heap.size, 0, none⟩ y0).setCell ⟨w.heap.size, 1, none⟩ y1).setCell ⟨w.heap.size, 2, none⟩ y2) := by
  refine ⟨row_set3 y0 y1 y2 _ hR, ?_, ?_⟩
  · rw [heap_setCell_other _ ⟨w.heap.size, 2, none⟩ _ _ (fun e => by simp only at e; omega), heap_setCell_other _ ⟨w.heap.size, 1, none⟩ _ _ (fun e => by simp only at e; omega), heap_setCell_other _ ⟨w.heap.size, 0, none⟩ _ _ (fun e => by simp only at e; omega)]
    exact hE
  · exact ((hb.setCell (p := ⟨w.heap.size, 0, none⟩) (Nat.le_refl _) _).setCell (p := ⟨w.heap.size, 1, none⟩) (Nat.le_refl _) _).setCell (p := ⟨w.heap.size, 2, none⟩) (Nat.le_refl _) _
theorem res_fin {w w4 : World} {x0 x1 x2 y : Value} (hR : w4.heap[w.heap.size]? = some (.cells #[x0, x1, x2] 25 (0, 0))) (hE : w4.heap[w.heap.size + 1]? = some (.cells #[y] 26 (0, 0))) (hb : Below w.heap.size w w4) (y0 y1 y2 y' : Value) :
    ((((w4.setCell ⟨w.heap.size, 0, none⟩ y0).setCell ⟨w.heap.size, 1, none⟩ y1).setCell ⟨w.heap.size, 2, none⟩ y2).setCell ⟨w.heap.size + 1, 0, none⟩ y').heap[w.heap.size]? = some (.cells #[y0, y1, y2] 25 (0, 0)) ∧
    ((((w4.setCell ⟨w.heap.size, 0, none⟩ y0).setCell ⟨w.heap.size, 1, none⟩ y1).setCell ⟨w.heap.size, 2, none⟩ y2).setCell ⟨w.heap.size + 1, 0, none⟩ y').heap[w.heap.size + 1]? = some (.cells #[y'] 26 (0, 0)) ∧
    Below w.heap.size w ((((w4.setCell ⟨w.heap.size, 0, none⟩ y0).setCell ⟨w.heap.size, 1, none⟩ y1).setCell ⟨w.heap.size, 2, none⟩ y2).setCell ⟨w.heap.size + 1, 0, none⟩ y') := by
  obtain ⟨a, b, c⟩ := res_set hR hE hb y0 y1 y2
  refine ⟨?_, ?_, c.setCell (p := ⟨w.heap.size + 1, 0, none⟩) (by simp) _⟩
  · rw [heap_setCell_other _ ⟨w.heap.size + 1, 0, none⟩ _ _ (fun e => by simp only at e; omega)]; exact a
  · have := heap_setCell_same _ (w.heap.size + 1) 0 _ _ y' b
    simpa using this
theorem rowI_at : ∀ (l : List Iv) (i c : Nat) (p : Iv) (u : Value), l[i]? = some p → (ivCells p)[c]? = some u → (rowI l)[i * 6 + c]? = some u
  | [], i, c, p, u, h, _ => by simp at h
  | q :: l, 0, c, p, u, h, hc => by
    simp only [List.getElem?_cons_zero, Option.some.injEq] at h
    subst h
    simp only [rowI, List.flatMap_cons]
    have hcl := (List.getElem?_eq_some_iff.1 hc).1
    rw [List.getElem?_append_left (by simpa using hcl)]
    simpa using hc
  | q :: l, i + 1, c, p, u, h, hc => by
    have := rowI_at l i c p u (by simpa using h) hc
    simp only [rowI, List.flatMap_cons] at this ⊢
    rw [List.getElem?_append_right (by simp [ivCells]; omega), ← this]
    congr 1
    simp [ivCells]; omega
theorem RdI.of_own {w : World} {v : Value} {l : List Iv} {base e : Nat} (h : w.ownsRow base e 6 v l.length (rowI l)) : RdI w v l := by
  have h0 := h
  obtain ⟨_, hc⟩ := h
  rcases hc with ⟨rfl, hn⟩ | ⟨g, cap, cur, rfl, _, hg, hn, hcm, _, _⟩
  · exact .inl ⟨rfl, List.eq_nil_of_length_eq_zero hn⟩
  · exact .inr ⟨⟨g, 0, none⟩, cap, rfl, hn, by unfold maxLen at hcm; exact hcm, fun i p hp c u hu => h0.cells (g := g) rfl (i * 6 + c) u (rowI_at l i c p u hp hu)⟩
theorem set_grownO (w : World) (B o : Nat) (v : Value) : w.grownBy (w.setCell ⟨B, o, none⟩ v) (some B) :=
  ⟨rfl, rfl, rfl, by simp, fun k _ hk => heap_setCell_other w ⟨B, o, none⟩ k v (fun e => hk (by simp [e]))⟩
theorem own_sets {w : World} {v : Value} {n base e R : Nat} {xs : List Value} (h : w.ownsRow base e 6 v n xs) (hR : R < base) (y0 y1 y2 : Value) : (((w.setCell ⟨R, 0, none⟩ y0).setCell ⟨R, 1, none⟩ y1).setCell ⟨R, 2, none⟩ y2).ownsRow base e 6 v n xs := by
  have hne : v.ownBlock = none ∨ v.ownBlock ≠ some R := by
    cases hc : v.ownBlock with
    | none => exact .inl rfl
    | some k => right; intro h'; cases h'; have := (h.lt _ hc).1; omega
  exact ((h.kept (set_grownO _ R 0 y0) hne).kept (set_grownO _ R 1 y1) hne).kept (set_grownO _ R 2 y2) hne
theorem own_set1 {w : World} {v : Value} {n base e R : Nat} {xs : List Value} (h : w.ownsRow base e 6 v n xs) (hR : R < base) (y0 : Value) : (w.setCell ⟨R, 0, none⟩ y0).ownsRow base e 6 v n xs := by
  have hne : v.ownBlock = none ∨ v.ownBlock ≠ some R := by
    cases hc : v.ownBlock with
    | none => exact .inl rfl
    | some k => right; intro h'; cases h'; have := (h.lt _ hc).1; omega
  exact h.kept (set_grownO _ R 0 y0) hne
set_option maxRecDepth 100000 in
set_option maxHeartbeats 1000000 in
theorem Parse_any (s : ByteArray) (hs : s.size ≤ 100000) (w : World) (hT : Lib.Utf8Tabs 1 2 w) :
    Calls Tryd.prog 10 #[.string s] w (ParseP s w) := by
  have hmf : ∀ (fn : Fn) (first cap : Array Value) (w : World), (Instr.makeFunc fn first cap).run Tryd.prog w = .ok (.func fn first cap) w := fun _ _ _ _ => rfl
  have hts := trimS_size s
  have hTr := fun w' (h : Below w.heap.size w w') => Trim_any s (by omega) w' (Utf8Tabs_below hT h)
  have HTR := Lib.hid hTr
  clear hTr
  go_enter_defers Tryd.func10, Tryd.ntmps10
  go_wp2_with fail
  generalize hw2 : ((w.alloc (.cells #[.bool false, .string { data := #[] }, .slice none 0 0] 25)).alloc (.cells #[.int .i64 0] 26)) = w2
  have hb2 : Below w.heap.size w w2 := by rw [← hw2]; exact ((Below.refl w.heap.size w).alloc (Nat.le_refl _) _).alloc (by simp) _
  have hR2 : w2.heap[w.heap.size]? = some (.cells #[.bool false, .string { data := #[] }, .slice none 0 0] 25 (0, 0)) := by
    rw [← hw2, Below.heap_alloc _ _ _ (by simp)]; exact heap_alloc_new w _
  have hE2 : w2.heap[w.heap.size + 1]? = some (.cells #[.int .i64 0] 26 (0, 0)) := by rw [← hw2]; exact heap_alloc2_new w _ _
  have hz2 : w2.heap.size = w.heap.size + 2 := by rw [← hw2]; simp
  clear hw2
  refine (HTR.out _ hb2).mono ?_
  rintro e w3 ⟨rfl, hb3⟩
  have hR3 := (hb3.block _ (by omega)).trans hR2
  have hE3 := (hb3.block _ (by omega)).trans hE2
  have hbw3 := hb2.trans (hb3.mono hb2.size)
  have hz3 := hb3.size
  obtain ⟨t, ht⟩ : ∃ t, trimS s = t := ⟨_, rfl⟩
  rw [show Lib.trimF blankN s = t from ht]
  have hpm : parseM s = if nextS t = 91 ∨ nextS t = 40 then (match ivAll t with | some l => if mayB true .empty l then some (true, .empty, l) else none | none => none)
      else if mayB false t [] then some (false, t, []) else none := by unfold parseM; rw [ht]
  rw [ht] at hts
  have HPM := Lib.hid hpm
  have HBW3 := Lib.hid hbw3
  have hrb : RB (w3.alloc (.cells #[.string t] 51)) w3.heap.size t := heap_alloc_new w3 _
  have hR4 := (Below.heap_alloc w3 (.cells #[.string t] 51) _ (Array.getElem?_eq_some_iff.1 hR3).1).trans hR3
  have hE4 := (Below.heap_alloc w3 (.cells #[.string t] 51) _ (Array.getElem?_eq_some_iff.1 hE3).1).trans hE3
  have hz4 : (w3.alloc (.cells #[.string t] 51)).heap.size = w3.heap.size + 1 := by simp
  have hbw4 : Below w.heap.size w (w3.alloc (.cells #[.string t] 51)) := hbw3.alloc hbw3.size _
  clear hpm ht hb3 hR3 hE3 hbw3 hR2 hE2 hb2
  go_wp2_with fail
  generalize w3.alloc (.cells #[.string t] 51) = w4 at hrb hR4 hE4 hz4 hbw4 ⊢
  have HRB := Lib.hid hrb
  have HR4 := Lib.hid hR4
  have HE4 := Lib.hid hE4
  have HBW4 := Lib.hid hbw4
  have HN := Lib.hid (next_at w3.heap.size t w4 hrb)
  have htab : Tabs w w4 w3.heap.size := ⟨hT, hbw4, by omega⟩
  have HTAB := Lib.hid htab
  have hrc := hrb.cell
  obtain ⟨r0, r1, r2, zr2⟩ := row3_cells hR4
  have zr0 : w4.frozen? ⟨w.heap.size, 0, none⟩ = false := frozen_of_row w4 _ 0 _ _ hR4
  have zr1 : w4.frozen? ⟨w.heap.size, 1, none⟩ = false := frozen_of_row w4 _ 1 _ _ hR4
  have nRE : ¬ w.heap.size = w.heap.size + 1 := by omega
  have nER : ¬ w.heap.size + 1 = w.heap.size := by omega
  clear hrb hR4 hE4 hbw4 hT htab
  by_cases h1 : nextS t = 91 ∨ nextS t = 40
  · have HP1 := Lib.hid (HPM.out.trans (if_pos h1))
    have HIVS := Lib.hid (ivsR_at w w3.heap.size t (by omega) w4 HTAB.out HRB.out)
    clear r0 r1 r2 zr0 zr1 zr2
    by_cases h91 : nextS t = 91
    · refine HN.out.mono ?_
      rintro e w5 ⟨rfl, rfl⟩
      rw [h91]
      go_wp2_with fail
      refine HIVS.out.mono ?_
      rintro e w6 (⟨l, v, hall, rfl, hown, hg, hver, hlen⟩ | ⟨hall, rfl, hg⟩)
      · have hp2 := HP1.out
        rw [hall] at hp2
        simp only at hp2
        have HP2 := Lib.hid hp2
        have hR6 := grown_row hg HR4.out (by omega)
        have hE6 := grown_row hg HE4.out (by omega)
        have hbw6 : Below w.heap.size w w6 := HBW4.out.grown hg HBW4.out.size (fun k hk => by cases hk; omega)
        have hzw6 := hg.size
        obtain ⟨va, vc, rfl⟩ : ∃ a c, v = .slice a l.length c := by
          rcases hown.2 with ⟨h, h0⟩ | ⟨g, cap, cur, h, _⟩
          · exact ⟨none, 0, by rw [h, h0]⟩
          · exact ⟨_, _, h⟩
        have hsm : ∀ p ∈ l, smallI p := fun p hp => ⟨by have := (hver p hp).1; unfold smallE; omega, by have := (hver p hp).2; unfold smallE; omega⟩
        have HSM := Lib.hid hsm
        obtain ⟨u1, u2, u3⟩ := res_set hR6 hE6 hbw6 (.bool true) (.string .empty) (.slice va l.length vc)
        have hown7 := own_sets hown (R := w.heap.size) (by omega) (.bool true) (.string .empty) (.slice va l.length vc)
        have HO7 := Lib.hid hown7
        have HU1 := Lib.hid u1
        have HU2 := Lib.hid u2
        have HU3 := Lib.hid u3
        obtain ⟨r0, r1, r2, zr2⟩ := row3_cells hR6
        have zr0 : w6.frozen? ⟨w.heap.size, 0, none⟩ = false := frozen_of_row w6 _ 0 _ _ hR6
        have zr1 : w6.frozen? ⟨w.heap.size, 1, none⟩ = false := frozen_of_row w6 _ 1 _ _ hR6
        clear hall hp2 hver hown hown7 u1 u2 u3 hsm hg hbw6 hR6 hE6
        go_wp2_with fail
        have hEq : (((w6.setCell ⟨w.heap.size, 0, none⟩ (.bool true)).setCell ⟨w.heap.size, 1, none⟩ (.string .empty)).setCell ⟨w.heap.size, 2, none⟩ (.slice va l.length vc)) = (((w6.setCell ⟨w.heap.size, 0, none⟩ (.bool true)).setCell ⟨w.heap.size, 1, none⟩ (.string { data := #[] })).setCell ⟨w.heap.size, 2, none⟩ (.slice va l.length vc)) := rfl
        rw [hEq] at HU1 HU2 HU3 HO7
        generalize (((w6.setCell ⟨w.heap.size, 0, none⟩ (.bool true)).setCell ⟨w.heap.size, 1, none⟩ (.string { data := #[] })).setCell ⟨w.heap.size, 2, none⟩ (.slice va l.length vc)) = w7 at HU1 HU2 HU3 HO7 ⊢
        have hmay := May_any true .empty (.slice va l.length vc) l (by decide) HSM.out w7 (RdI.of_own HO7.out)
        refine hmay.mono ?_
        rintro e w8 ⟨rfl, hb8⟩
        have v1 := (hb8.block _ (Array.getElem?_eq_some_iff.1 HU1.out).1).trans HU1.out
        have v2 := (hb8.block _ (Array.getElem?_eq_some_iff.1 HU2.out).1).trans HU2.out
        have hbw8 := HU3.out.trans (hb8.mono HU3.out.size)
        have hown8 := HO7.out.kept (below_grown hb8 none) (by cases hc : (Value.slice va l.length vc).ownBlock <;> simp)
        have V1 := Lib.hid v1
        have V2 := Lib.hid v2
        have HBW8 := Lib.hid hbw8
        have HO8 := Lib.hid hown8
        generalize hmb : mayB true .empty l = mb at HP2
        have HMB := Lib.hid hmb
        obtain ⟨q0, q1, q2, zq2⟩ := row3_cells v1
        have zq0 : w8.frozen? ⟨w.heap.size, 0, none⟩ = false := frozen_of_row w8 _ 0 _ _ v1
        have zq1 : w8.frozen? ⟨w.heap.size, 1, none⟩ = false := frozen_of_row w8 _ 1 _ _ v1
        have e0 : w8.cell? ⟨w.heap.size + 1, 0, none⟩ = some (.int .i64 0) := by rw [cell_of_row w8 _ 0 _ _ (0, 0) v2]; rfl
        have f0 : w8.frozen? ⟨w.heap.size + 1, 0, none⟩ = false := frozen_of_row w8 _ 0 _ _ v2
        clear v1 v2 hmay hb8 hbw8 hmb hown8 r0 r1 r2 zr0 zr1 zr2 hEq
        cases mb
        · go_wp2
          refine leaves_cons (f := 24) (args := #[.pointer (some ⟨w.heap.size, 0, none⟩), .pointer (some ⟨w.heap.size + 1, 0, none⟩)]) (by simp) (by simp [go_sem]) ?_
          refine (catch_bad w.heap.size (w.heap.size + 1) (by omega) w8 ⟨⟨_, _, _, V1.out⟩, _, V2.out⟩).mono ?_
          rintro e u' w9 ⟨rfl, rfl, rfl⟩
          obtain ⟨a1, a2, a3⟩ := res_fin V1.out V2.out HBW8.out (.bool false) (.string .empty) (.slice none 0 0) (.int .i64 21)
          exact ⟨_, parse_results _ _ w.heap.size (w.heap.size + 1) _ _ _ _ rfl rfl a1 a2, a3, .inr ⟨HP2.out, rfl⟩⟩
        · go_wp2
          refine leaves_cons (f := 24) (args := #[.pointer (some ⟨w.heap.size, 0, none⟩), .pointer (some ⟨w.heap.size + 1, 0, none⟩)]) (by simp) (by simp [go_sem]) ?_
          refine (catch_idle w.heap.size (w.heap.size + 1) _).mono ?_
          rintro e u' w9 ⟨rfl, rfl, rfl⟩
          obtain ⟨a1, a2, a3⟩ := res_fin V1.out V2.out HBW8.out (.bool true) (.string .empty) (.slice va l.length vc) (.int .i64 0)
          exact ⟨_, parse_results _ _ w.heap.size (w.heap.size + 1) _ _ _ _ rfl rfl a1 a2, a3, .inl ⟨_, _, _, _, HP2.out, rfl, RdI.of_own (own_set1 (own_sets HO8.out (R := w.heap.size) (by omega) _ _ _) (R := w.heap.size + 1) (by omega) _), HSM.out, by decide⟩⟩
      · have hp2 := HP1.out
        rw [hall] at hp2
        simp only at hp2
        have HP2 := Lib.hid hp2
        have hR6 := grown_row hg HR4.out (by omega)
        have hE6 := grown_row hg HE4.out (by omega)
        have hbw6 : Below w.heap.size w w6 := HBW4.out.grown hg HBW4.out.size (fun k hk => by cases hk; omega)
        have V1 := Lib.hid hR6
        have V2 := Lib.hid hE6
        have HBW6 := Lib.hid hbw6
        clear hall hp2 hg hbw6 hR6 hE6
        go_wp2
        refine leaves_cons (f := 24) (args := #[.pointer (some ⟨w.heap.size, 0, none⟩), .pointer (some ⟨w.heap.size + 1, 0, none⟩)]) (by simp) (by simp [go_sem]) ?_
        refine (catch_bad w.heap.size (w.heap.size + 1) (by omega) w6 ⟨⟨_, _, _, V1.out⟩, _, V2.out⟩).mono ?_
        rintro e u' w9 ⟨rfl, rfl, rfl⟩
        obtain ⟨a1, a2, a3⟩ := res_fin V1.out V2.out HBW6.out (.bool false) (.string .empty) (.slice none 0 0) (.int .i64 21)
        exact ⟨_, parse_results _ _ w.heap.size (w.heap.size + 1) _ _ _ _ rfl rfl a1 a2, a3, .inr ⟨HP2.out, rfl⟩⟩
    · have h40 : nextS t = 40 := by omega
      refine HN.out.mono ?_
      rintro e w5 ⟨rfl, rfl⟩
      rw [h40]
      go_wp2_with fail
      refine HN.out.mono ?_
      rintro e w5 ⟨rfl, rfl⟩
      rw [h40]
      go_wp2_with fail
      refine HIVS.out.mono ?_
      rintro e w6 (⟨l, v, hall, rfl, hown, hg, hver, hlen⟩ | ⟨hall, rfl, hg⟩)
      · have hp2 := HP1.out
        rw [hall] at hp2
        simp only at hp2
        have HP2 := Lib.hid hp2
        have hR6 := grown_row hg HR4.out (by omega)
        have hE6 := grown_row hg HE4.out (by omega)
        have hbw6 : Below w.heap.size w w6 := HBW4.out.grown hg HBW4.out.size (fun k hk => by cases hk; omega)
        have hzw6 := hg.size
        obtain ⟨va, vc, rfl⟩ : ∃ a c, v = .slice a l.length c := by
          rcases hown.2 with ⟨h, h0⟩ | ⟨g, cap, cur, h, _⟩
          · exact ⟨none, 0, by rw [h, h0]⟩
          · exact ⟨_, _, h⟩
        have hsm : ∀ p ∈ l, smallI p := fun p hp => ⟨by have := (hver p hp).1; unfold smallE; omega, by have := (hver p hp).2; unfold smallE; omega⟩
        have HSM := Lib.hid hsm
        obtain ⟨u1, u2, u3⟩ := res_set hR6 hE6 hbw6 (.bool true) (.string .empty) (.slice va l.length vc)
        have hown7 := own_sets hown (R := w.heap.size) (by omega) (.bool true) (.string .empty) (.slice va l.length vc)
        have HO7 := Lib.hid hown7
        have HU1 := Lib.hid u1
        have HU2 := Lib.hid u2
        have HU3 := Lib.hid u3
        obtain ⟨r0, r1, r2, zr2⟩ := row3_cells hR6
        have zr0 : w6.frozen? ⟨w.heap.size, 0, none⟩ = false := frozen_of_row w6 _ 0 _ _ hR6
        have zr1 : w6.frozen? ⟨w.heap.size, 1, none⟩ = false := frozen_of_row w6 _ 1 _ _ hR6
        clear hall hp2 hver hown hown7 u1 u2 u3 hsm hg hbw6 hR6 hE6
        go_wp2_with fail
        have hEq : (((w6.setCell ⟨w.heap.size, 0, none⟩ (.bool true)).setCell ⟨w.heap.size, 1, none⟩ (.string .empty)).setCell ⟨w.heap.size, 2, none⟩ (.slice va l.length vc)) = (((w6.setCell ⟨w.heap.size, 0, none⟩ (.bool true)).setCell ⟨w.heap.size, 1, none⟩ (.string { data := #[] })).setCell ⟨w.heap.size, 2, none⟩ (.slice va l.length vc)) := rfl
        rw [hEq] at HU1 HU2 HU3 HO7
        generalize (((w6.setCell ⟨w.heap.size, 0, none⟩ (.bool true)).setCell ⟨w.heap.size, 1, none⟩ (.string { data := #[] })).setCell ⟨w.heap.size, 2, none⟩ (.slice va l.length vc)) = w7 at HU1 HU2 HU3 HO7 ⊢
        have hmay := May_any true .empty (.slice va l.length vc) l (by decide) HSM.out w7 (RdI.of_own HO7.out)
        refine hmay.mono ?_
        rintro e w8 ⟨rfl, hb8⟩
        have v1 := (hb8.block _ (Array.getElem?_eq_some_iff.1 HU1.out).1).trans HU1.out
        have v2 := (hb8.block _ (Array.getElem?_eq_some_iff.1 HU2.out).1).trans HU2.out
        have hbw8 := HU3.out.trans (hb8.mono HU3.out.size)
        have hown8 := HO7.out.kept (below_grown hb8 none) (by cases hc : (Value.slice va l.length vc).ownBlock <;> simp)
        have V1 := Lib.hid v1
        have V2 := Lib.hid v2
        have HBW8 := Lib.hid hbw8
        have HO8 := Lib.hid hown8
        generalize hmb : mayB true .empty l = mb at HP2
        have HMB := Lib.hid hmb
        obtain ⟨q0, q1, q2, zq2⟩ := row3_cells v1
        have zq0 : w8.frozen? ⟨w.heap.size, 0, none⟩ = false := frozen_of_row w8 _ 0 _ _ v1
        have zq1 : w8.frozen? ⟨w.heap.size, 1, none⟩ = false := frozen_of_row w8 _ 1 _ _ v1
        have e0 : w8.cell? ⟨w.heap.size + 1, 0, none⟩ = some (.int .i64 0) := by rw [cell_of_row w8 _ 0 _ _ (0, 0) v2]; rfl
        have f0 : w8.frozen? ⟨w.heap.size + 1, 0, none⟩ = false := frozen_of_row w8 _ 0 _ _ v2
        clear v1 v2 hmay hb8 hbw8 hmb hown8 r0 r1 r2 zr0 zr1 zr2 hEq
        cases mb
        · go_wp2
          refine leaves_cons (f := 24) (args := #[.pointer (some ⟨w.heap.size, 0, none⟩), .pointer (some ⟨w.heap.size + 1, 0, none⟩)]) (by simp) (by simp [go_sem]) ?_
          refine (catch_bad w.heap.size (w.heap.size + 1) (by omega) w8 ⟨⟨_, _, _, V1.out⟩, _, V2.out⟩).mono ?_
          rintro e u' w9 ⟨rfl, rfl, rfl⟩
          obtain ⟨a1, a2, a3⟩ := res_fin V1.out V2.out HBW8.out (.bool false) (.string .empty) (.slice none 0 0) (.int .i64 21)
          exact ⟨_, parse_results _ _ w.heap.size (w.heap.size + 1) _ _ _ _ rfl rfl a1 a2, a3, .inr ⟨HP2.out, rfl⟩⟩
        · go_wp2
          refine leaves_cons (f := 24) (args := #[.pointer (some ⟨w.heap.size, 0, none⟩), .pointer (some ⟨w.heap.size + 1, 0, none⟩)]) (by simp) (by simp [go_sem]) ?_
          refine (catch_idle w.heap.size (w.heap.size + 1) _).mono ?_
          rintro e u' w9 ⟨rfl, rfl, rfl⟩
          obtain ⟨a1, a2, a3⟩ := res_fin V1.out V2.out HBW8.out (.bool true) (.string .empty) (.slice va l.length vc) (.int .i64 0)
          exact ⟨_, parse_results _ _ w.heap.size (w.heap.size + 1) _ _ _ _ rfl rfl a1 a2, a3, .inl ⟨_, _, _, _, HP2.out, rfl, RdI.of_own (own_set1 (own_sets HO8.out (R := w.heap.size) (by omega) _ _ _) (R := w.heap.size + 1) (by omega) _), HSM.out, by decide⟩⟩
      · have hp2 := HP1.out
        rw [hall] at hp2
        simp only at hp2
        have HP2 := Lib.hid hp2
        have hR6 := grown_row hg HR4.out (by omega)
        have hE6 := grown_row hg HE4.out (by omega)
        have hbw6 : Below w.heap.size w w6 := HBW4.out.grown hg HBW4.out.size (fun k hk => by cases hk; omega)
        have V1 := Lib.hid hR6
        have V2 := Lib.hid hE6
        have HBW6 := Lib.hid hbw6
        clear hall hp2 hg hbw6 hR6 hE6
        go_wp2
        refine leaves_cons (f := 24) (args := #[.pointer (some ⟨w.heap.size, 0, none⟩), .pointer (some ⟨w.heap.size + 1, 0, none⟩)]) (by simp) (by simp [go_sem]) ?_
        refine (catch_bad w.heap.size (w.heap.size + 1) (by omega) w6 ⟨⟨_, _, _, V1.out⟩, _, V2.out⟩).mono ?_
        rintro e u' w9 ⟨rfl, rfl, rfl⟩
        obtain ⟨a1, a2, a3⟩ := res_fin V1.out V2.out HBW6.out (.bool false) (.string .empty) (.slice none 0 0) (.int .i64 21)
        exact ⟨_, parse_results _ _ w.heap.size (w.heap.size + 1) _ _ _ _ rfl rfl a1 a2, a3, .inr ⟨HP2.out, rfl⟩⟩
  · have HP1 := Lib.hid (HPM.out.trans (if_neg h1))
    have n1 : (nextS t == 91) = false := by simp; omega
    have n2 : (nextS t == 40) = false := by simp; omega
    refine HN.out.mono ?_
    rintro e w5 ⟨rfl, rfl⟩
    go_wp2_with fail
    refine HN.out.mono ?_
    rintro e w6 ⟨rfl, rfl⟩
    go_wp2_with fail
    obtain ⟨u1, u2, u3⟩ := res_set HR4.out HE4.out HBW4.out (.bool false) (.string t) (.slice none 0 0)
    have hzz : w6.heap.size ≤ (((w6.setCell ⟨w.heap.size, 0, none⟩ (.bool false)).setCell ⟨w.heap.size, 1, none⟩ (.string t)).setCell ⟨w.heap.size, 2, none⟩ (.slice none 0 0)).heap.size := by simp
    generalize (((w6.setCell ⟨w.heap.size, 0, none⟩ (.bool false)).setCell ⟨w.heap.size, 1, none⟩ (.string t)).setCell ⟨w.heap.size, 2, none⟩ (.slice none 0 0)) = w7 at u1 u2 u3 hzz ⊢
    have hmay := May_any false t (.slice none 0 0) [] (by omega) (by simp) w7 (.inl ⟨rfl, rfl⟩)
    refine hmay.mono ?_
    rintro e w8 ⟨rfl, hb8⟩
    have v1 := (hb8.block _ (Array.getElem?_eq_some_iff.1 u1).1).trans u1
    have v2 := (hb8.block _ (Array.getElem?_eq_some_iff.1 u2).1).trans u2
    have hbw8 := u3.trans (hb8.mono u3.size)
    have V1 := Lib.hid v1
    have V2 := Lib.hid v2
    have HBW8 := Lib.hid hbw8
    generalize hmb : mayB false t [] = mb at HP1
    have HMB := Lib.hid hmb
    obtain ⟨q0, q1, q2, zq2⟩ := row3_cells v1
    have zq0 : w8.frozen? ⟨w.heap.size, 0, none⟩ = false := frozen_of_row w8 _ 0 _ _ v1
    have zq1 : w8.frozen? ⟨w.heap.size, 1, none⟩ = false := frozen_of_row w8 _ 1 _ _ v1
    have e0 : w8.cell? ⟨w.heap.size + 1, 0, none⟩ = some (.int .i64 0) := by rw [cell_of_row w8 _ 0 _ _ (0, 0) v2]; rfl
    have f0 : w8.frozen? ⟨w.heap.size + 1, 0, none⟩ = false := frozen_of_row w8 _ 0 _ _ v2
    clear v1 v2 u1 u2 u3 hmay hb8 hbw8 hmb r0 r1 r2 zr0 zr1 zr2 hrc
    cases mb
    · go_wp2
      refine leaves_cons (f := 24) (args := #[.pointer (some ⟨w.heap.size, 0, none⟩), .pointer (some ⟨w.heap.size + 1, 0, none⟩)]) (by simp) (by simp [go_sem]) ?_
      refine (catch_bad w.heap.size (w.heap.size + 1) (by omega) w8 ⟨⟨_, _, _, V1.out⟩, _, V2.out⟩).mono ?_
      rintro e u' w9 ⟨rfl, rfl, rfl⟩
      obtain ⟨a1, a2, a3⟩ := res_fin V1.out V2.out HBW8.out (.bool false) (.string .empty) (.slice none 0 0) (.int .i64 21)
      exact ⟨_, parse_results _ _ w.heap.size (w.heap.size + 1) _ _ _ _ rfl rfl a1 a2, a3, .inr ⟨HP1.out, rfl⟩⟩
    · go_wp2
      refine leaves_cons (f := 24) (args := #[.pointer (some ⟨w.heap.size, 0, none⟩), .pointer (some ⟨w.heap.size + 1, 0, none⟩)]) (by simp) (by simp [go_sem]) ?_
      refine (catch_idle w.heap.size (w.heap.size + 1) _).mono ?_
      rintro e u' w9 ⟨rfl, rfl, rfl⟩
      obtain ⟨a1, a2, a3⟩ := res_fin V1.out V2.out HBW8.out (.bool false) (.string t) (.slice none 0 0) (.int .i64 0)
      exact ⟨_, parse_results _ _ w.heap.size (w.heap.size + 1) _ _ _ _ rfl rfl a1 a2, a3, .inl ⟨_, _, _, _, HP1.out, rfl, .inl ⟨rfl, rfl⟩, by simp, by omega⟩⟩
end Go.Proofs.YtnghagikchffiaaDoor
