/-
  Layer 4: the contract of trimmed. Own work.
-/
import Derived.Test.YtnghagikchffiaaDoorPart4
import Derived.Shelf.SlicesQ.Reverse
namespace Go.Proofs.YtnghagikchffiaaDoor
set_option linter.unusedVariables false
set_option linter.unusedSimpArgs false
open Go.RowKit

theorem pt_info : (Tryd.prog.info? 108).map (fun i => (i.zero, i.size, i.bytes)) = some (some (.agg #[.bool false, .bool false, .string ⟨#[]⟩]), 3, 24) := by kernel_rfl
theorem own_below {w w1 : World} {base e n s : Nat} {v : Value} {xs : List Value} (h : w.ownsRow base e s v n xs) (hb : Below w.heap.size w w1) : w1.ownsRow base e s v n xs :=
  h.kept (row := none) ⟨hb.os, hb.tape, hb.output, hb.size, fun k hk _ => hb.block k hk⟩ (by cases v.ownBlock <;> simp)
theorem own_slice {w : World} {base e n s : Nat} {v : Value} {xs : List Value} (h : w.ownsRow base e s v n xs) : ∃ a cap, v = .slice a n cap := by
  rcases h.2 with ⟨rfl, rfl⟩ | ⟨g, cap, cur, rfl, _⟩
  · exact ⟨_, _, rfl⟩
  · exact ⟨_, _, rfl⟩

theorem backUp_keep {l : List Pt} {k i : Nat} (hi : i = l.length - 1 - k) (h : keepB l (backUp l k) i = true) : backUp l (k + 1) = backUp l k ++ [ptAt l i] := by
  subst hi
  show (if _ then _ else _) = _
  rw [if_pos h]
theorem backUp_drop {l : List Pt} {k i : Nat} (hi : i = l.length - 1 - k) (h : keepB l (backUp l k) i = false) : backUp l (k + 1) = backUp l k := by
  subst hi
  show (if _ then _ else _) = _
  rw [if_neg (by rw [h]; simp)]
theorem backUp_ne {l : List Pt} (h : 0 < l.length) : backUp l l.length ≠ [] := by
  obtain ⟨k, hk⟩ : ∃ k, l.length = k + 1 := ⟨l.length - 1, by omega⟩
  rw [hk, backUp_keep (i := 0) (by omega) (by simp [keepB])]
  simp
theorem lastHy_last {b : List Pt} {q : Pt} (h : b[b.length - 1]? = some q) : lastHy b = q.hy := by
  unfold lastHy
  rw [List.getLast?_eq_getElem?, h]

theorem pt_cell1 (x : Pt) : ∀ v ∈ ptCells x, v.oneCell' = true := fun v hv => by
  simp only [ptCells, List.mem_cons, List.not_mem_nil, or_false] at hv
  rcases hv with rfl | rfl | rfl <;> rfl
instance : Inhabited Pt := ⟨Pt0⟩
theorem get_pt {l : List Pt} {i : Nat} {p : Pt} (h : l[i]? = some p) : l.toArray[i]! = p := by
  rw [Array.getElem!_eq_getD, Array.getD_eq_getD_getElem?, List.getElem?_toArray, h]; rfl
theorem holds_own {w : World} {base e g n cap : Nat} {l : List Pt} (h : w.ownsRow base e 3 (.slice (some ⟨g, 0, none⟩) n cap) n (rowP l)) (hn : n = l.length) : Go.Sort.HoldsK ptCells 3 w g 0 l.toArray := by
  intro j hj
  rw [Go.Sort.size_flatK] at hj
  have hj' : j < l.length * 3 := by simpa using hj
  rw [Go.Sort.get_flatK _ _ _ _ hj, Nat.zero_add]
  have hi : j / 3 < l.length := by omega
  obtain ⟨p, hp⟩ : ∃ p, l[j / 3]? = some p := ⟨_, List.getElem?_eq_getElem hi⟩
  rw [get_pt hp]
  have h1 := rowP_at l (j / 3) (j % 3) p hp (Nat.mod_lt _ (by omega))
  rw [show j / 3 * 3 + j % 3 = j by omega] at h1
  have h2 : (ptCells p)[j % 3]? = some ((ptCells p)[j % 3]!) := by
    have hm : j % 3 < (ptCells p).length := by simp only [ptCells, List.length_cons, List.length_nil]; omega
    rw [List.getElem?_eq_getElem hm, List.getElem!_eq_getElem?_getD, List.getElem?_eq_getElem hm]; rfl
  have h3 := h.cells (g := g) rfl j _ (h1.trans h2)
  rw [add_off] at h3
  exact ⟨h3, h.frozenAt j⟩
theorem reversed_rd {w : World} {g m cap n : Nat} {l : List Pt} (hH : Go.Sort.HoldsK ptCells 3 w g 0 l.toArray) (hm : m = l.length) (hg : g < w.heap.size) (hc1 : m ≤ cap) (hc2 : cap ≤ 9223372036854775807) :
    RdP (Go.Sort.putRowK ptCells 3 (Go.Sort.ahead w n) g 0 l.toArray.reverse) (.slice (some ⟨g, 0, none⟩) m cap) l.reverse := by
  have hK := Go.Sort.holdsK_putRowK (enc := ptCells) (k := 3) (Go.Sort.ahead w n) g 0 l.toArray l.toArray.reverse hH (by simp)
  refine ⟨some ⟨g, 0, none⟩, cap, by rw [List.length_reverse, hm], by rw [List.length_reverse, ← hm]; exact hc1, hc2, fun i p hp => ⟨g, 0, rfl, by simpa [Go.Sort.putRowK] using hg, ?_⟩⟩
  have hi : i < l.reverse.length := (List.getElem?_eq_some_iff.1 hp).1
  have hgp : l.toArray.reverse[i]! = p := by
    rw [List.reverse_toArray]; exact get_pt hp
  have hc := fun c hc => (hK.cell (i := i) (c := c) (by simpa using hi) hc).1
  simp only [hgp] at hc
  exact ⟨hc 0 (by omega), hc 1 (by omega), hc 2 (by omega)⟩
theorem reversed_below {w : World} {B g n : Nat} (d : Array Pt) (hg : B ≤ g) : Below B w (Go.Sort.putRowK ptCells 3 (Go.Sort.ahead w n) g 0 d) := by
  refine ⟨rfl, rfl, rfl, by simp [Go.Sort.putRowK], fun k hk => ?_⟩
  have : g ≠ k := by omega
  simp [Go.Sort.putRowK, Go.Sort.putRow, Go.Sort.mapBlock, Go.Sort.ahead, Array.getElem?_modify, this]

/-- a slice from the head of a block of parts that lies above B -/
def Tagged (B : Nat) (w' : World) (u : Value) : Prop := ∃ g n cap cur fz, u = .slice (some ⟨g, 0, none⟩) n cap ∧ B ≤ g ∧ w'.heap[g]? = some (.cells cur 108 fz)
theorem reversed_heap {w : World} {g n : Nat} {cur : Array Value} {e : TypeId} {fr : Nat × Nat} (d : Array Pt) (hb : w.heap[g]? = some (.cells cur e fr)) :
    ∃ cur', (Go.Sort.putRowK ptCells 3 (Go.Sort.ahead w n) g 0 d).heap[g]? = some (.cells cur' e fr) := by
  refine ⟨Go.Sort.putCells id 0 (Go.Sort.flatK ptCells 3 d) cur, ?_⟩
  simp [Go.Sort.putRowK, Go.Sort.putRow, Go.Sort.mapBlock, Go.Sort.ahead, Array.getElem?_modify, hb, Go.Sort.onCells]

set_option maxHeartbeats 4000000 in
set_option maxRecDepth 100000 in
theorem trimmed_any (v : Value) (l : List Pt) (hl : l.length ≤ 1000000) (hl0 : 0 < l.length) (w : World) (hv : RdP w v l) :
    Calls Tryd.prog 82 #[v] w fun e w' => ∃ u, e = .returned u ∧ RdP w' u (trimmedL l) ∧ Below w.heap.size w w' ∧ Tagged w.heap.size w' u := by
  obtain ⟨pa, ca, rfl, hac, hac2, hca⟩ := hv
  have HA := Lib.hid hca; clear hca
  have HA2 := Lib.hid hac2; clear hac2
  obtain ⟨n, hn⟩ : ∃ n, n = l.length := ⟨_, rfl⟩
  rw [← hn] at hl hl0 hac ⊢
  have HN := Lib.hid hn; clear hn
  have HL0 := Lib.hid hl0
  go_enter Tryd.func82, Tryd.ntmps82
  go_wp2
  go_loopw [3, 9] (fun b i wr => ∃ k : Nat, k ≤ n ∧ i = .int .i64 k ∧ wr.ownsRow w.heap.size 108 3 b (backUp l k).length (rowP (backUp l k)) ∧ Below w.heap.size w wr) (fun _ i _ => n - (intOf i).toNat)
  case atStart => exact ⟨0, Nat.zero_le _, rfl, World.ownsRow_nil _ _ _ _, Below.refl _ _⟩
  case round =>
    obtain ⟨k, hk, rfl, hown, hbel⟩ := hrel
    have hz := hbel.size
    have hbk := backUp_len l k
    obtain ⟨ab, cb, rfl⟩ := own_slice hown
    by_cases hlt : k < n
    · obtain ⟨i, hi⟩ : ∃ i, i = n - 1 - k := ⟨_, rfl⟩
      have hil : i < n := by omega
      have hie : (n : Int) - 1 - (k : Int) = (i : Int) := by omega
      have HI := Lib.hid (show i = l.length - 1 - k by rw [← HN.out]; exact hi)
      clear hi
      obtain ⟨p, hpk⟩ : ∃ p, l[i]? = some p := ⟨_, List.getElem?_eq_getElem (by rw [← HN.out]; exact hil)⟩
      have hpa : ptAt l i = p := by unfold ptAt; rw [List.getD_eq_getElem?_getD, hpk]; rfl
      obtain ⟨ba, oa, rfl, hblt, a0, a1, a2⟩ := HA.out i p hpk
      have a0 := (hbel.cell (p := ⟨ba, oa + i * 3, none⟩) hblt).trans a0
      have a1 := (hbel.cell (p := ⟨ba, oa + i * 3 + 1, none⟩) hblt).trans a1
      have a2 := (hbel.cell (p := ⟨ba, oa + i * 3 + 2, none⟩) hblt).trans a2
      have hba : ba < wr.heap.size := by omega
      have HPA := Lib.hid hpa; clear hpa
      have HPK := Lib.hid hpk; clear hpk
      have hnull := fun w => isNull_any p w
      unfold ptV at hnull
      obtain ⟨m, hm⟩ : ∃ m, m = (backUp l k).length := ⟨_, rfl⟩
      have HM := Lib.hid hm
      rw [← hm] at hown hbk ⊢
      clear hm
      have HO := Lib.hid hown; clear hown
      have hii : ((i : Int) == 0) = (i == 0) := by rw [Bool.eq_iff_iff]; simp
      by_cases hm0 : m = 0
      · have hm1 : (m == 0) = true := by simpa using hm0
        have HK0 := Lib.hid (show keepB l (backUp l k) i = ((i : Int) == 0 || !p.tx.isEmpty) by
          have : backUp l k = [] := List.eq_nil_of_length_eq_zero (by rw [← HM.out]; exact hm0)
          rw [this, hii]; simp [keepB, lastHy, HPA.out])
        have HM0 := Lib.hid hm0
        clear hii
        subst hm0
        cases hi0 : ((i : Int) == 0)
        · cases ht : p.tx.isEmpty
          · rw [ht] at hnull
            have HNU := Lib.hid hnull
            have HK := Lib.hid (HK0.out.trans (by rw [hi0, ht]; rfl) : keepB l (backUp l k) i = true)
            clear hnull ht
            go_wp2_with fail
            refine (HNU.out _).mono ?_
            rintro e w1 ⟨rfl, hb1⟩
            have a0 := (hb1.cell (p := ⟨ba, oa + i * 3, none⟩) hba).trans a0
            have a1 := (hb1.cell (p := ⟨ba, oa + i * 3 + 1, none⟩) hba).trans a1
            have a2 := (hb1.cell (p := ⟨ba, oa + i * 3 + 2, none⟩) hba).trans a2
            have hbw := hbel.trans (hb1.mono hz)
            have hz1 := hb1.size
            have ho1 := Lib.hid (own_below HO.out hb1)
            go_wp2_with (at_builtin
                         refine app3 rfl _ _ 99 108 rfl _ 24 w.heap.size 0 Tryd.underlying99 pt_info rfl _ _ rfl ho1.out rfl rfl rfl rfl (by omega) (by omega) (by omega) ?_)
            intro v2 w2 ho2 hg2 hb2
            have e2 := backUp_keep HI.out HK.out
            have HR := Lib.hid (show w2.ownsRow w.heap.size 108 3 v2 (backUp l (k + 1)).length (rowP (backUp l (k + 1))) by
              rw [e2, List.length_append, ← HM.out, rowP_snoc, HPA.out]; exact ho2)
            clear ho2 e2
            go_wp2
            exact ⟨⟨k + 1, by omega, by go_num, HR.out, hbw.trans hb2⟩, by simp [intOf]; omega⟩
          · rw [ht] at hnull
            have HNU := Lib.hid hnull
            have HK := Lib.hid (HK0.out.trans (by rw [hi0, ht]; rfl) : keepB l (backUp l k) i = false)
            clear hnull ht
            go_wp2_with fail
            refine (HNU.out _).mono ?_
            rintro e w1 ⟨rfl, hb1⟩
            have a0 := (hb1.cell (p := ⟨ba, oa + i * 3, none⟩) hba).trans a0
            have a1 := (hb1.cell (p := ⟨ba, oa + i * 3 + 1, none⟩) hba).trans a1
            have a2 := (hb1.cell (p := ⟨ba, oa + i * 3 + 2, none⟩) hba).trans a2
            have hbw := hbel.trans (hb1.mono hz)
            have hz1 := hb1.size
            have ho1 := Lib.hid (own_below HO.out hb1)
            have e2 := backUp_drop HI.out HK.out
            have HR := Lib.hid (show w1.ownsRow w.heap.size 108 3 (.slice ab 0 cb) (backUp l (k + 1)).length (rowP (backUp l (k + 1))) by
              rw [e2, ← HM.out]; exact ho1.out)
            clear e2
            go_wp2
            exact ⟨⟨k + 1, by omega, by go_num, HR.out, hbw⟩, by simp [intOf]; omega⟩
        · have HK := Lib.hid (HK0.out.trans (by rw [hi0]; rfl) : keepB l (backUp l k) i = true)
          clear hnull
          have hbw := hbel
          have ho1 := HO
          go_wp2_with (at_builtin
                       refine app3 rfl _ _ 99 108 rfl _ 24 w.heap.size 0 Tryd.underlying99 pt_info rfl _ _ rfl ho1.out rfl rfl rfl rfl (by omega) (by omega) (by omega) ?_)
          intro v2 w2 ho2 hg2 hb2
          have e2 := backUp_keep HI.out HK.out
          have HR := Lib.hid (show w2.ownsRow w.heap.size 108 3 v2 (backUp l (k + 1)).length (rowP (backUp l (k + 1))) by
            rw [e2, List.length_append, ← HM.out, rowP_snoc, HPA.out]; exact ho2)
          clear ho2 e2
          go_wp2
          exact ⟨⟨k + 1, by omega, by go_num, HR.out, hbw.trans hb2⟩, by simp [intOf]; omega⟩
      · have hm1 : (m == 0) = false := by simpa using hm0
        have hm3 : ((m : Int) == 0) = false := by simp; omega
        have hm2 : 0 < m := by omega
        obtain ⟨q, hq⟩ : ∃ q, (backUp l k)[m - 1]? = some q := ⟨_, List.getElem?_eq_getElem (by rw [← HM.out]; omega)⟩
        have HK0 := Lib.hid (show keepB l (backUp l k) i = ((i : Int) == 0 || !p.tx.isEmpty || !q.hy) by
          rw [hii]; unfold keepB
          rw [HPA.out, lastHy_last (by rw [← HM.out]; exact hq)])
        obtain ⟨g, hg, hglt⟩ : ∃ g, ab = some ⟨g, 0, none⟩ ∧ g < wr.heap.size := by
          rcases HO.out.2 with ⟨h, h1⟩ | ⟨g, cap, cur, h, _, h2, _⟩
          · omega
          · injection h with h3
            exact ⟨g, h3, (Array.getElem?_eq_some_iff.1 h2).1⟩
        subst hg
        obtain ⟨q0, _, _⟩ := own_cells HO.out rfl hq
        have HQ := Lib.hid hq
        clear hii hq hm0
        cases hqh : q.hy
        all_goals rw [hqh] at q0
        all_goals have HK0 := Lib.hid (HK0.out.trans (by rw [hqh]))
        · cases hi0 : ((i : Int) == 0)
          · cases ht : p.tx.isEmpty
            all_goals rw [ht] at hnull
            all_goals have HNU := Lib.hid hnull
            all_goals have HK := Lib.hid (HK0.out.trans (by rw [hi0, ht]; rfl) : keepB l (backUp l k) i = true)
            all_goals clear hnull ht hqh
            · have _tok := HK
              go_wp2_with fail
              refine (HNU.out _).mono ?_
              rintro e w1 ⟨rfl, hb1⟩
              have a0 := (hb1.cell (p := ⟨ba, oa + i * 3, none⟩) hba).trans a0
              have a1 := (hb1.cell (p := ⟨ba, oa + i * 3 + 1, none⟩) hba).trans a1
              have a2 := (hb1.cell (p := ⟨ba, oa + i * 3 + 2, none⟩) hba).trans a2
              have hbw := hbel.trans (hb1.mono hz)
              have hz1 := hb1.size
              have ho1 := Lib.hid (own_below HO.out hb1)
              go_wp2_with (at_builtin
                           refine app3 rfl _ _ 99 108 rfl _ 24 w.heap.size m Tryd.underlying99 pt_info rfl _ _ rfl ho1.out rfl rfl rfl rfl (by omega) (by omega) (by omega) ?_)
              intro v2 w2 ho2 hg2 hb2
              have e2 := backUp_keep HI.out HK.out
              have HR := Lib.hid (show w2.ownsRow w.heap.size 108 3 v2 (backUp l (k + 1)).length (rowP (backUp l (k + 1))) by
                rw [e2, List.length_append, ← HM.out, rowP_snoc, HPA.out]; exact ho2)
              clear ho2 e2
              go_wp2
              exact ⟨⟨k + 1, by omega, by go_num, HR.out, hbw.trans hb2⟩, by simp [intOf]; omega⟩
            · have _tok := HK
              go_wp2_with fail
              refine (HNU.out _).mono ?_
              rintro e w1 ⟨rfl, hb1⟩
              have a0 := (hb1.cell (p := ⟨ba, oa + i * 3, none⟩) hba).trans a0
              have a1 := (hb1.cell (p := ⟨ba, oa + i * 3 + 1, none⟩) hba).trans a1
              have a2 := (hb1.cell (p := ⟨ba, oa + i * 3 + 2, none⟩) hba).trans a2
              have hbw := hbel.trans (hb1.mono hz)
              have hz1 := hb1.size
              have ho1 := Lib.hid (own_below HO.out hb1)
              go_wp2_with (at_builtin
                           refine app3 rfl _ _ 99 108 rfl _ 24 w.heap.size m Tryd.underlying99 pt_info rfl _ _ rfl ho1.out rfl rfl rfl rfl (by omega) (by omega) (by omega) ?_)
              intro v2 w2 ho2 hg2 hb2
              have e2 := backUp_keep HI.out HK.out
              have HR := Lib.hid (show w2.ownsRow w.heap.size 108 3 v2 (backUp l (k + 1)).length (rowP (backUp l (k + 1))) by
                rw [e2, List.length_append, ← HM.out, rowP_snoc, HPA.out]; exact ho2)
              clear ho2 e2
              go_wp2
              exact ⟨⟨k + 1, by omega, by go_num, HR.out, hbw.trans hb2⟩, by simp [intOf]; omega⟩
          · have HK := Lib.hid (HK0.out.trans (by rw [hi0]; rfl) : keepB l (backUp l k) i = true)
            clear hnull hqh
            have hbw := hbel
            have ho1 := HO
            go_wp2_with (at_builtin
                         refine app3 rfl _ _ 99 108 rfl _ 24 w.heap.size m Tryd.underlying99 pt_info rfl _ _ rfl ho1.out rfl rfl rfl rfl (by omega) (by omega) (by omega) ?_)
            intro v2 w2 ho2 hg2 hb2
            have e2 := backUp_keep HI.out HK.out
            have HR := Lib.hid (show w2.ownsRow w.heap.size 108 3 v2 (backUp l (k + 1)).length (rowP (backUp l (k + 1))) by
              rw [e2, List.length_append, ← HM.out, rowP_snoc, HPA.out]; exact ho2)
            clear ho2 e2
            go_wp2
            exact ⟨⟨k + 1, by omega, by go_num, HR.out, hbw.trans hb2⟩, by simp [intOf]; omega⟩
        · cases hi0 : ((i : Int) == 0)
          · cases ht : p.tx.isEmpty
            · rw [ht] at hnull
              have HNU := Lib.hid hnull
              have HK := Lib.hid (HK0.out.trans (by rw [hi0, ht]; rfl) : keepB l (backUp l k) i = true)
              clear hnull ht hqh
              go_wp2_with fail
              refine (HNU.out _).mono ?_
              rintro e w1 ⟨rfl, hb1⟩
              have a0 := (hb1.cell (p := ⟨ba, oa + i * 3, none⟩) hba).trans a0
              have a1 := (hb1.cell (p := ⟨ba, oa + i * 3 + 1, none⟩) hba).trans a1
              have a2 := (hb1.cell (p := ⟨ba, oa + i * 3 + 2, none⟩) hba).trans a2
              have hbw := hbel.trans (hb1.mono hz)
              have hz1 := hb1.size
              have ho1 := Lib.hid (own_below HO.out hb1)
              go_wp2_with (at_builtin
                           refine app3 rfl _ _ 99 108 rfl _ 24 w.heap.size m Tryd.underlying99 pt_info rfl _ _ rfl ho1.out rfl rfl rfl rfl (by omega) (by omega) (by omega) ?_)
              intro v2 w2 ho2 hg2 hb2
              have e2 := backUp_keep HI.out HK.out
              have HR := Lib.hid (show w2.ownsRow w.heap.size 108 3 v2 (backUp l (k + 1)).length (rowP (backUp l (k + 1))) by
                rw [e2, List.length_append, ← HM.out, rowP_snoc, HPA.out]; exact ho2)
              clear ho2 e2
              go_wp2
              exact ⟨⟨k + 1, by omega, by go_num, HR.out, hbw.trans hb2⟩, by simp [intOf]; omega⟩
            · rw [ht] at hnull
              have HNU := Lib.hid hnull
              have HK := Lib.hid (HK0.out.trans (by rw [hi0, ht]; rfl) : keepB l (backUp l k) i = false)
              clear hnull ht hqh
              go_wp2_with fail
              refine (HNU.out _).mono ?_
              rintro e w1 ⟨rfl, hb1⟩
              have a0 := (hb1.cell (p := ⟨ba, oa + i * 3, none⟩) hba).trans a0
              have a1 := (hb1.cell (p := ⟨ba, oa + i * 3 + 1, none⟩) hba).trans a1
              have a2 := (hb1.cell (p := ⟨ba, oa + i * 3 + 2, none⟩) hba).trans a2
              have hbw := hbel.trans (hb1.mono hz)
              have hz1 := hb1.size
              have ho1 := Lib.hid (own_below HO.out hb1)
              have e2 := backUp_drop HI.out HK.out
              have HR := Lib.hid (show w1.ownsRow w.heap.size 108 3 (.slice (some ⟨g, 0, none⟩) m cb) (backUp l (k + 1)).length (rowP (backUp l (k + 1))) by
                rw [e2, ← HM.out]; exact ho1.out)
              clear e2
              go_wp2
              exact ⟨⟨k + 1, by omega, by go_num, HR.out, hbw⟩, by simp [intOf]; omega⟩
          · have HK := Lib.hid (HK0.out.trans (by rw [hi0]; rfl) : keepB l (backUp l k) i = true)
            clear hnull hqh
            have hbw := hbel
            have ho1 := HO
            go_wp2_with (at_builtin
                         refine app3 rfl _ _ 99 108 rfl _ 24 w.heap.size m Tryd.underlying99 pt_info rfl _ _ rfl ho1.out rfl rfl rfl rfl (by omega) (by omega) (by omega) ?_)
            intro v2 w2 ho2 hg2 hb2
            have e2 := backUp_keep HI.out HK.out
            have HR := Lib.hid (show w2.ownsRow w.heap.size 108 3 v2 (backUp l (k + 1)).length (rowP (backUp l (k + 1))) by
              rw [e2, List.length_append, ← HM.out, rowP_snoc, HPA.out]; exact ho2)
            clear ho2 e2
            go_wp2
            exact ⟨⟨k + 1, by omega, by go_num, HR.out, hbw.trans hb2⟩, by simp [intOf]; omega⟩
    · have hkn : k = n := by omega
      subst hkn
      obtain ⟨m, hm⟩ : ∃ m, m = (backUp l k).length := ⟨_, rfl⟩
      have hm0 : 0 < m := by
        have := backUp_ne (l := l) (by rw [← HN.out]; exact hl0)
        rw [← HN.out] at this
        rw [hm]; exact List.length_pos_iff.2 this
      obtain ⟨g, hg, hglt, hgb, hgc⟩ : ∃ g, ab = some ⟨g, 0, none⟩ ∧ g < wr.heap.size ∧ w.heap.size ≤ g ∧ ∃ cur, wr.heap[g]? = some (.cells cur 108 (0, 0)) := by
        rcases hown.2 with ⟨h, h1⟩ | ⟨g, cap, cur, h, hgb, h2, _⟩
        · omega
        · injection h with h3
          exact ⟨g, h3, (Array.getElem?_eq_some_iff.1 h2).1, hgb, cur, h2⟩
      have HGC := Lib.hid hgc; clear hgc
      subst hg
      rw [← hm] at hown hbk ⊢
      have HM := Lib.hid hm; clear hm
      have hH := holds_own hown HM.out
      have HCC := Lib.hid (show m ≤ cb ∧ cb ≤ 9223372036854775807 by
        rcases hown.2 with ⟨h, h1⟩ | ⟨g, cap, cur, h, hgb, h2, h3, h4, _⟩
        · omega
        · injection h with h5 h6 h7
          rw [h7]
          exact ⟨h3, by unfold maxLen at h4; exact h4⟩)
      have hrev := AnyQ.slices_Reverse Tryd.reversePt 3 Tryd.isAgg108 Tryd.sizeOf108 ptCells (fun _ => rfl) pt_cell1 g 0 cb (backUp l k).toArray wr hH (by have := HM.out; simp; omega)
      rw [show (backUp l k).toArray.size = m by simpa using HM.out.symm] at hrev
      have HREV := Lib.hid hrev; clear hrev
      have HH := Lib.hid hH; clear hH
      go_wp2_with fail
      refine (HREV.out).mono ?_
      rintro e w1 ⟨rfl, nn, hw1⟩
      have HW1 := Lib.hid hw1; clear hw1
      go_wp2
      go_ret
      refine ⟨_, rfl, ?_, ?_, ?_⟩
      · unfold trimmedL
        rw [HW1.out, ← HN.out]
        exact reversed_rd HH.out HM.out hglt HCC.out.1 HCC.out.2
      · rw [HW1.out]; exact hbel.trans (reversed_below _ hgb)
      · rw [HW1.out]
        obtain ⟨cur, hcur⟩ := HGC.out
        obtain ⟨cur', hcur'⟩ := reversed_heap (n := nn) (backUp l k).toArray.reverse hcur
        exact ⟨g, m, cb, cur', _, rfl, hgb, hcur'⟩
end Go.Proofs.YtnghagikchffiaaDoor
