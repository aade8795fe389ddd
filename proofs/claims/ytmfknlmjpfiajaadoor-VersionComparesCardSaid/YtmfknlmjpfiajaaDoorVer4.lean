/-
  Layer 4: the contracts of Compare and Canon; the document's examples hold. Own work.
-/
import Derived.Test.YtmfknlmjpfiajaaDoorParts4
import Derived.Test.YtmfknlmjpfiajaaDoorCmp4
import Derived.Test.YtmfknlmjpfiajaaDoorBuilderK
namespace Go.Proofs.YtmfknlmjpfiajaaDoor
set_option linter.unusedVariables false
set_option linter.unusedSimpArgs false
open Go.RowKit

theorem toList_eq_iff (s t : ByteArray) : (s.toList == t.toList) = decide (s.data.toList = t.data.toList) := by
  rw [Bool.eq_iff_iff]
  simp [ByteArray.toList_eq]
set_option maxHeartbeats 1000000 in
theorem Compare_any (s t : ByteArray) (hs : s.size ≤ 100000) (ht : t.size ≤ 100000) (w : World) :
    Calls Tryd.prog 20 #[.string s, .string t] w fun e w' => e = .returned (.int .i64 (cmpB s.data.toList t.data.toList)) ∧ Below w.heap.size w w' := by
  cases he : (s.toList == t.toList)
  · have ha := partsB_len s.data.toList
    have hb := partsB_len t.data.toList
    have h1 : s.data.toList.length = s.size := by simp
    have h2 : t.data.toList.length = t.size := by simp
    rw [h1] at ha
    rw [h2] at hb
    clear h1 h2
    have P1 := Lib.hid (fun w => Parts_any s hs w)
    have P2 := Lib.hid (fun w => Parts_any t ht w)
    go_enter Tryd.func20, Tryd.ntmps20
    go_wp2_with fail
    refine (P1.out _).mono ?_
    rintro e w1 ⟨u1, rfl, hr1, hb1, _⟩
    go_wp2_with fail
    refine (P2.out _).mono ?_
    rintro e w2 ⟨u2, rfl, hr2, hb2, _⟩
    have C := Lib.hid (compareParts_any u1 u2 _ _ (by omega) (by omega) w2 (hr1.below hb2 (Nat.le_refl _)) hr2)
    have hbw := hb1.trans (hb2.mono hb1.size)
    have hz := hbw.size
    clear hr1 hr2
    go_wp2_with fail
    refine (C.out).mono ?_
    rintro e w3 ⟨rfl, hb3⟩
    go_wp2
    go_ret
    exact ⟨rfl, hbw.trans (hb3.mono hz)⟩
  · go_enter Tryd.func20, Tryd.ntmps20
    go_wp2
    go_ret
    refine ⟨ret_int ?_, Below.refl _ _⟩
    rw [toList_eq_iff] at he
    rw [of_decide_eq_true he, cmpB_ord.self]

theorem RdP.kept {w w' : World} {v : Value} {l : List Pt} {g n cap : Nat} (h : RdP w v l) (hv : v = .slice (some ⟨g, 0, none⟩) n cap) (hg : w'.heap[g]? = w.heap[g]?) (hlt : g < w'.heap.size) : RdP w' v l := by
  obtain ⟨a, c, e, h1, h2, hc⟩ := h
  refine ⟨a, c, e, h1, h2, fun i p hp => ?_⟩
  obtain ⟨b, off, e2, _, c0, c1, c2⟩ := hc i p hp
  have hb : b = g := by
    rw [e, e2] at hv
    injection hv with h3
    injection h3 with h4
    injection h4
  subst hb
  exact ⟨b, off, e2, hlt, (World.cell?_of_block hg).trans c0, (World.cell?_of_block hg).trans c1, (World.cell?_of_block hg).trans c2⟩
theorem mkPt_tx (t : List UInt8) (hy j : Bool) : (mkPt t hy j).tx.length ≤ t.length + 9 := by
  unfold mkPt
  split
  · have := (List.dropWhile_sublist (l := t) (· == (48 : UInt8))).length_le
    show (Lib.trimLeftB t 48).length ≤ _
    unfold Lib.trimLeftB
    omega
  · show (wordP t j).length ≤ _
    unfold wordP
    repeat' split
    all_goals first | (simp; done) | (simp; omega) | omega
theorem ptAt_mem {l : List Pt} {i : Nat} (h : i < l.length) : ptAt l i ∈ l := by
  unfold ptAt
  rw [List.getD_eq_getElem?_getD, List.getElem?_eq_getElem h]
  exact List.getElem_mem h
theorem sl_len (l : List UInt8) (i j : Nat) : (sl l i j).length ≤ l.length := by unfold sl; simp; omega
theorem cutUp_tx (l : List UInt8) : ∀ k, ∀ p ∈ (cutUp l k).out, p.tx.length ≤ l.length + 9
  | 0, p, hp => by simp [cutUp] at hp
  | k + 1, p, hp => by
    have ih := cutUp_tx l k
    have hp' : p ∈ (cut1 l (cutUp l k) k).out := hp
    unfold cut1 at hp'
    split at hp'
    · rcases List.mem_append.1 hp' with h | h
      · exact ih p h
      · simp only [List.mem_singleton] at h
        subst h
        have := mkPt_tx (sl l (cutUp l k).at_ k) (cutUp l k).hy false
        have := sl_len l (cutUp l k).at_ k
        omega
    · split at hp'
      · rcases List.mem_append.1 hp' with h | h
        · exact ih p h
        · simp only [List.mem_singleton] at h
          subst h
          have := mkPt_tx (sl l (cutUp l k).at_ k) (cutUp l k).hy true
          have := sl_len l (cutUp l k).at_ k
          omega
      · exact ih p hp'
theorem parts0_tx (l : List UInt8) : ∀ p ∈ parts0 l, p.tx.length ≤ l.length + 9 := by
  intro p hp
  unfold parts0 at hp
  rcases List.mem_append.1 hp with h | h
  · exact cutUp_tx l _ p h
  · simp only [List.mem_singleton] at h
    subst h
    have := mkPt_tx (l.drop (cutUp l l.length).at_) (cutUp l l.length).hy false
    have : (l.drop (cutUp l l.length).at_).length ≤ l.length := by simp
    omega
theorem backUp_mem (l : List Pt) : ∀ k, k ≤ l.length → ∀ p ∈ backUp l k, p ∈ l
  | 0, _, p, hp => by simp [backUp] at hp
  | k + 1, hk, p, hp => by
    have ih := backUp_mem l k (by omega)
    unfold backUp at hp
    split at hp
    · rcases List.mem_append.1 hp with h | h
      · exact ih p h
      · simp only [List.mem_singleton] at h
        subst h
        exact ptAt_mem (by omega)
    · exact ih p hp
theorem partsB_tx (l : List UInt8) : ∀ p ∈ partsB l, p.tx.length ≤ l.length + 9 := by
  intro p hp
  unfold partsB trimmedL at hp
  have h := backUp_mem _ _ (Nat.le_refl _) p (List.mem_reverse.1 hp)
  have := parts0_tx (l.map lowB) p h
  rw [List.length_map] at this
  exact this
theorem canUp_len (M : Nat) (l : List Pt) (hl : ∀ p ∈ l, p.tx.length ≤ M) : ∀ k, k ≤ l.length → (canUp l k).length ≤ k * (M + 2)
  | 0, _ => by simp [canUp]
  | k + 1, hk => by
    have h1 := canUp_len M l hl k (by omega)
    have h2 := hl _ (ptAt_mem (l := l) (i := k) (by omega))
    show (canUp l k ++ canP k (ptAt l k)).length ≤ _
    rw [List.length_append]
    have h4 : (canP k (ptAt l k)).length ≤ 2 + (ptAt l k).tx.length := by
      unfold canP
      simp only [List.length_append]
      repeat' split
      all_goals simp <;> omega
    rw [Nat.add_mul]
    omega
theorem bld_below {B b : Nat} {l : List UInt8} {w w' : World} (h : Bld B b l w) (hb : Below w.heap.size w w') : Bld B b l w' := by
  have key : ∀ p, Lib.BuilderAt 54 5 B b p (Lib.byteCells l) w → Lib.BuilderAt 54 5 B b p (Lib.byteCells l) w' := by
    rintro p ⟨h1, v, h2, h3, h4⟩
    exact ⟨h1, v, (hb.block _ (Array.getElem?_eq_some_iff.1 h2).1).trans h2, own_below h3 hb, h4⟩
  rcases h with h | h
  · exact .inl (key _ h)
  · exact .inr (key _ h)
set_option maxHeartbeats 4000000 in
set_option maxRecDepth 100000 in
theorem Canon_any (s : ByteArray) (hs : s.size ≤ 1000) (w : World) :
    Calls Tryd.prog 18 #[.string s] w fun e w' => e = .returned (.string (str (canonB s.data.toList))) ∧ Below w.heap.size w w' := by
  have P1 := Lib.hid (fun w => Parts_any s (by omega) w)
  have h1 : s.data.toList.length = s.size := by simp
  have htx := partsB_tx s.data.toList
  have hln := partsB_len s.data.toList
  rw [h1] at htx hln
  obtain ⟨l, hl⟩ : ∃ l, l = partsB s.data.toList := ⟨_, rfl⟩
  have HCB := Lib.hid (show canonB s.data.toList = canUp l l.length by rw [hl]; rfl)
  rw [← hl] at P1 htx hln
  have HCL := Lib.hid (fun k hk => canUp_len (s.size + 9) l htx k hk)
  have HTX := Lib.hid htx
  clear hl h1 htx
  obtain ⟨n, hn⟩ : ∃ n, n = l.length := ⟨_, rfl⟩
  rw [← hn] at hln HCB HCL
  have HN := Lib.hid hn; clear hn
  go_enter Tryd.func18, Tryd.ntmps18
  go_wp2_with fail
  refine (P1.out _).mono ?_
  rintro e w1 ⟨u, rfl, hrd, hb1, htg⟩
  obtain ⟨g, n', cap, cur, fz, rfl, hg1, hg2⟩ := htg
  have hn' : n' = n := by
    obtain ⟨a, c, e, _⟩ := hrd
    injection e with _ e2
    rw [e2, HN.out]
  subst hn'
  have hz1 := hb1.size
  simp only [World.size_alloc] at hz1 hg1
  have hbu1 := Lib.hid (bld_below (B := w.heap.size) (b := w.heap.size) (l := []) (Lib.fresh_isBuilder 54 5 w) hb1)
  have HG := Lib.hid (⟨hg1, hg2⟩ : w.heap.size + 1 ≤ g ∧ w1.heap[g]? = some (.cells cur 30 fz))
  have HRD := Lib.hid hrd
  have HB1 := Lib.hid (((Below.refl _ w).alloc (Nat.le_refl _) _).trans (hb1.mono (by simp)) : Below w.heap.size w w1)
  clear hg1 hg2 hrd hb1
  go_wp2
  go_loopw [9] (fun i wr => ∃ k : Nat, k ≤ n' ∧ i = .int .i64 k ∧ Bld w.heap.size w.heap.size (canUp l k) wr ∧ Below w.heap.size w wr ∧ wr.heap[g]? = some (.cells cur 30 fz)) (fun i _ => n' - (intOf i).toNat)
  case atStart => exact ⟨0, Nat.zero_le _, rfl, hbu1.out, HB1.out, HG.out.2⟩
  case round =>
    obtain ⟨k, hk, rfl, hbu, hbel, hgr⟩ := hrel
    have hz := hbel.size
    by_cases hlt : k < n'
    · have hglt : g < wr.heap.size := (Array.getElem?_eq_some_iff.1 hgr).1
      have hrdk := HRD.out.kept (w' := wr) rfl (by rw [hgr, HG.out.2]) hglt
      obtain ⟨p, hpk⟩ : ∃ p, l[k]? = some p := ⟨_, List.getElem?_eq_getElem (by rw [← HN.out]; exact hlt)⟩
      have hpa : ptAt l k = p := by unfold ptAt; rw [List.getD_eq_getElem?_getD, hpk]; rfl
      have htx := HTX.out p (List.mem_of_getElem? hpk)
      have hcl := HCL.out k (by omega)
      have hcl2 : k * (s.size + 9 + 2) ≤ 1001 * 1011 := Nat.mul_le_mul (by omega) (by omega)
      have HNX := Lib.hid (show canUp l (k + 1) = canUp l k ++ canP k p by rw [← hpa]; rfl)
      clear hpa
      obtain ⟨a, c, e, _, _, hc⟩ := hrdk
      obtain ⟨b0, off, e2, hblt, c0, c1, c2⟩ := hc k p hpk
      rw [e2] at e
      injection e with e3 e4 e5
      injection e3 with e6
      injection e6 with e7 e8
      subst e7 e8
      rw [Nat.zero_add] at c0 c1 c2
      obtain ⟨acc, hacc⟩ : ∃ acc, acc = canUp l k := ⟨_, rfl⟩
      rw [← hacc] at hbu hcl HNX
      have hal : acc.length ≤ 2000000 := by omega
      have HACC := Lib.hid hacc
      have HBU := Lib.hid hbu
      have HGR := Lib.hid hgr
      have hal2 : ∀ o : Obj, Bld w.heap.size w.heap.size acc (wr.alloc o) := fun o => bld_below hbu ((Below.refl _ _).alloc (Nat.le_refl _) _)
      have HAL := Lib.hid hal2
      have hgo : ∀ o : Obj, (wr.alloc o).heap[g]? = some (.cells cur 30 fz) := fun o => ((Below.refl wr.heap.size wr).alloc (Nat.le_refl _) o).block g hglt |>.trans hgr
      have HGO := Lib.hid hgo
      have hbo : ∀ o : Obj, Below w.heap.size w (wr.alloc o) := fun o => hbel.alloc hz o
      have HBO := Lib.hid hbo
      have hts : (str p.tx).size ≤ 1100 := by rw [size_str]; omega
      have htl := tl_str p.tx
      have hgne : g ≠ w.heap.size := by have := HG.out.1; omega
      have hwr : w.heap.size < wr.heap.size := by have := HG.out.1; omega
      have HSZ := Lib.hid (fun o : Obj => (show w.heap.size ≤ (wr.alloc o).heap.size by simp; omega))
      clear hc e2 e4 e5 hpk hbu hgr hacc hal2 hgo hbo hcl hcl2
      have hpn : (p.nu = false) ∨ (p.nu = true ∧ p.tx.isEmpty = true ∧ (str p.tx).toList = [] ∧ ((str p.tx).toList == ([] : List UInt8)) = true) ∨ (p.nu = true ∧ p.tx.isEmpty = false ∧ ((str p.tx).toList == ([] : List UInt8)) = false) := by
        rw [htl]
        cases h1 : p.nu <;> cases h2 : p.tx <;> simp
      clear htl
      have hsep : (k = 0 ∧ (k : Int) ≤ 0) ∨ (0 < k ∧ (0 : Int) < k ∧ p.hy = true) ∨ (0 < k ∧ (0 : Int) < k ∧ p.hy = false) := by
        rcases Nat.eq_zero_or_pos k with h | h
        · exact .inl ⟨h, by omega⟩
        · cases h1 : p.hy
          · exact .inr (.inr ⟨h, by omega, rfl⟩)
          · exact .inr (.inl ⟨h, by omega, rfl⟩)
      rcases hsep with ⟨hk0, hk1⟩ | ⟨hk0, hk1, hhy⟩ | ⟨hk0, hk1, hhy⟩
      · rcases hpn with hnu | ⟨hnu, hem, hz1, hz2⟩ | ⟨hnu, hem, hz2⟩
        · rw [hnu] at c1
          have HE := Lib.hid (show canP k p = p.tx by simp [canP, hk0, hnu])
          clear hnu hk0
          go_wp2_with fail
          refine (buk_writeString w.heap.size w.heap.size (acc) (str p.tx) _ (HAL.out _) (by omega) (HSZ.out _)).mono ?_
          rintro e x0 ⟨rfl, hbu0, hbl0, hok0⟩
          have hpb0 := hok0 wr.heap.size _ (heap_alloc_new wr _) (by simp; omega) (by intro c fz; simp)
          have hgb0 := hok0 g _ (HGO.out _) (by simpa using hgne) (by intro c fz; simp)
          have hbw0 := (HBO.out _).trans hbl0
          have hy0 := hbl0.size
          simp only [World.size_alloc] at hy0
          have HL := Lib.hid (show Bld w.heap.size w.heap.size (canUp l (k + 1)) x0 by
            rw [HNX.out, HE.out]
            rw [toList_str] at hbu0
            simpa [List.append_assoc] using hbu0)
          go_wp2
          exact ⟨⟨k + 1, by omega, by go_num, HL.out, hbw0, hgb0⟩, by simp [intOf]; omega⟩
        · rw [hnu] at c1
          have HE := Lib.hid (show canP k p = [48] ++ p.tx by simp [canP, hk0, hnu, hem])
          clear hnu hem hk0
          go_wp2_with fail
          refine (buk_writeByte w.heap.size w.heap.size (acc) 48 _ (HAL.out _) (by omega) (HSZ.out _)).mono ?_
          rintro e x0 ⟨rfl, hbu0, hbl0, hok0⟩
          have hpb0 := hok0 wr.heap.size _ (heap_alloc_new wr _) (by simp; omega) (by intro c fz; simp)
          have hgb0 := hok0 g _ (HGO.out _) (by simpa using hgne) (by intro c fz; simp)
          have hbw0 := (HBO.out _).trans hbl0
          have hy0 := hbl0.size
          simp only [World.size_alloc] at hy0
          have q00 : x0.cell? ⟨wr.heap.size, 0, none⟩ = some (.bool p.hy) := by rw [Lib.cell_of_heap hpb0]; rfl
          have q01 : x0.cell? ⟨wr.heap.size, 1, none⟩ = some (.bool true) := by rw [Lib.cell_of_heap hpb0]; rfl
          have q02 : x0.cell? ⟨wr.heap.size, 2, none⟩ = some (.string (str p.tx)) := by rw [Lib.cell_of_heap hpb0]; rfl
          clear hok0 hbl0
          go_wp2_with fail
          refine (buk_writeString w.heap.size w.heap.size (acc ++ [48]) (str p.tx) _ (hbu0) (by simp; omega) (by omega)).mono ?_
          rintro e x1 ⟨rfl, hbu1, hbl1, hok1⟩
          have hpb1 := hok1 wr.heap.size _ hpb0 (by simp; omega) (by intro c fz; simp)
          have hgb1 := hok1 g _ hgb0 (by simpa using hgne) (by intro c fz; simp)
          have hbw1 := hbw0.trans hbl1
          have hy1 := hbl1.size
          have HL := Lib.hid (show Bld w.heap.size w.heap.size (canUp l (k + 1)) x1 by
            rw [HNX.out, HE.out]
            rw [toList_str] at hbu1
            simpa [List.append_assoc] using hbu1)
          go_wp2
          exact ⟨⟨k + 1, by omega, by go_num, HL.out, hbw1, hgb1⟩, by simp [intOf]; omega⟩
        · rw [hnu] at c1
          have HE := Lib.hid (show canP k p = p.tx by simp [canP, hk0, hnu, hem])
          clear hnu hem hk0
          go_wp2_with fail
          refine (buk_writeString w.heap.size w.heap.size (acc) (str p.tx) _ (HAL.out _) (by omega) (HSZ.out _)).mono ?_
          rintro e x0 ⟨rfl, hbu0, hbl0, hok0⟩
          have hpb0 := hok0 wr.heap.size _ (heap_alloc_new wr _) (by simp; omega) (by intro c fz; simp)
          have hgb0 := hok0 g _ (HGO.out _) (by simpa using hgne) (by intro c fz; simp)
          have hbw0 := (HBO.out _).trans hbl0
          have hy0 := hbl0.size
          simp only [World.size_alloc] at hy0
          have HL := Lib.hid (show Bld w.heap.size w.heap.size (canUp l (k + 1)) x0 by
            rw [HNX.out, HE.out]
            rw [toList_str] at hbu0
            simpa [List.append_assoc] using hbu0)
          go_wp2
          exact ⟨⟨k + 1, by omega, by go_num, HL.out, hbw0, hgb0⟩, by simp [intOf]; omega⟩
      · rcases hpn with hnu | ⟨hnu, hem, hz1, hz2⟩ | ⟨hnu, hem, hz2⟩
        · rw [hhy] at c0
          rw [hnu] at c1
          have HE := Lib.hid (show canP k p = [45] ++ p.tx by simp [canP, Nat.pos_iff_ne_zero.1 hk0, hhy, hnu])
          clear hnu hhy hk0
          go_wp2_with fail
          refine (buk_writeByte w.heap.size w.heap.size (acc) 45 _ (HAL.out _) (by omega) (HSZ.out _)).mono ?_
          rintro e x0 ⟨rfl, hbu0, hbl0, hok0⟩
          have hpb0 := hok0 wr.heap.size _ (heap_alloc_new wr _) (by simp; omega) (by intro c fz; simp)
          have hgb0 := hok0 g _ (HGO.out _) (by simpa using hgne) (by intro c fz; simp)
          have hbw0 := (HBO.out _).trans hbl0
          have hy0 := hbl0.size
          simp only [World.size_alloc] at hy0
          have q00 : x0.cell? ⟨wr.heap.size, 0, none⟩ = some (.bool true) := by rw [Lib.cell_of_heap hpb0]; rfl
          have q01 : x0.cell? ⟨wr.heap.size, 1, none⟩ = some (.bool false) := by rw [Lib.cell_of_heap hpb0]; rfl
          have q02 : x0.cell? ⟨wr.heap.size, 2, none⟩ = some (.string (str p.tx)) := by rw [Lib.cell_of_heap hpb0]; rfl
          clear hok0 hbl0
          go_wp2_with fail
          refine (buk_writeString w.heap.size w.heap.size (acc ++ [45]) (str p.tx) _ (hbu0) (by simp; omega) (by omega)).mono ?_
          rintro e x1 ⟨rfl, hbu1, hbl1, hok1⟩
          have hpb1 := hok1 wr.heap.size _ hpb0 (by simp; omega) (by intro c fz; simp)
          have hgb1 := hok1 g _ hgb0 (by simpa using hgne) (by intro c fz; simp)
          have hbw1 := hbw0.trans hbl1
          have hy1 := hbl1.size
          have HL := Lib.hid (show Bld w.heap.size w.heap.size (canUp l (k + 1)) x1 by
            rw [HNX.out, HE.out]
            rw [toList_str] at hbu1
            simpa [List.append_assoc] using hbu1)
          go_wp2
          exact ⟨⟨k + 1, by omega, by go_num, HL.out, hbw1, hgb1⟩, by simp [intOf]; omega⟩
        · rw [hhy] at c0
          rw [hnu] at c1
          have HE := Lib.hid (show canP k p = [45] ++ [48] ++ p.tx by simp [canP, Nat.pos_iff_ne_zero.1 hk0, hhy, hnu, hem])
          clear hnu hhy hem hk0
          go_wp2_with fail
          refine (buk_writeByte w.heap.size w.heap.size (acc) 45 _ (HAL.out _) (by omega) (HSZ.out _)).mono ?_
          rintro e x0 ⟨rfl, hbu0, hbl0, hok0⟩
          have hpb0 := hok0 wr.heap.size _ (heap_alloc_new wr _) (by simp; omega) (by intro c fz; simp)
          have hgb0 := hok0 g _ (HGO.out _) (by simpa using hgne) (by intro c fz; simp)
          have hbw0 := (HBO.out _).trans hbl0
          have hy0 := hbl0.size
          simp only [World.size_alloc] at hy0
          have q00 : x0.cell? ⟨wr.heap.size, 0, none⟩ = some (.bool true) := by rw [Lib.cell_of_heap hpb0]; rfl
          have q01 : x0.cell? ⟨wr.heap.size, 1, none⟩ = some (.bool true) := by rw [Lib.cell_of_heap hpb0]; rfl
          have q02 : x0.cell? ⟨wr.heap.size, 2, none⟩ = some (.string (str p.tx)) := by rw [Lib.cell_of_heap hpb0]; rfl
          clear hok0 hbl0
          go_wp2_with fail
          refine (buk_writeByte w.heap.size w.heap.size (acc ++ [45]) 48 _ (hbu0) (by simp; omega) (by omega)).mono ?_
          rintro e x1 ⟨rfl, hbu1, hbl1, hok1⟩
          have hpb1 := hok1 wr.heap.size _ hpb0 (by simp; omega) (by intro c fz; simp)
          have hgb1 := hok1 g _ hgb0 (by simpa using hgne) (by intro c fz; simp)
          have hbw1 := hbw0.trans hbl1
          have hy1 := hbl1.size
          have q10 : x1.cell? ⟨wr.heap.size, 0, none⟩ = some (.bool true) := by rw [Lib.cell_of_heap hpb1]; rfl
          have q11 : x1.cell? ⟨wr.heap.size, 1, none⟩ = some (.bool true) := by rw [Lib.cell_of_heap hpb1]; rfl
          have q12 : x1.cell? ⟨wr.heap.size, 2, none⟩ = some (.string (str p.tx)) := by rw [Lib.cell_of_heap hpb1]; rfl
          clear hok1 hbl1
          go_wp2_with fail
          refine (buk_writeString w.heap.size w.heap.size (acc ++ [45] ++ [48]) (str p.tx) _ (hbu1) (by simp; omega) (by omega)).mono ?_
          rintro e x2 ⟨rfl, hbu2, hbl2, hok2⟩
          have hpb2 := hok2 wr.heap.size _ hpb1 (by simp; omega) (by intro c fz; simp)
          have hgb2 := hok2 g _ hgb1 (by simpa using hgne) (by intro c fz; simp)
          have hbw2 := hbw1.trans hbl2
          have hy2 := hbl2.size
          have HL := Lib.hid (show Bld w.heap.size w.heap.size (canUp l (k + 1)) x2 by
            rw [HNX.out, HE.out]
            rw [toList_str] at hbu2
            simpa [List.append_assoc] using hbu2)
          go_wp2
          exact ⟨⟨k + 1, by omega, by go_num, HL.out, hbw2, hgb2⟩, by simp [intOf]; omega⟩
        · rw [hhy] at c0
          rw [hnu] at c1
          have HE := Lib.hid (show canP k p = [45] ++ p.tx by simp [canP, Nat.pos_iff_ne_zero.1 hk0, hhy, hnu, hem])
          clear hnu hhy hem hk0
          go_wp2_with fail
          refine (buk_writeByte w.heap.size w.heap.size (acc) 45 _ (HAL.out _) (by omega) (HSZ.out _)).mono ?_
          rintro e x0 ⟨rfl, hbu0, hbl0, hok0⟩
          have hpb0 := hok0 wr.heap.size _ (heap_alloc_new wr _) (by simp; omega) (by intro c fz; simp)
          have hgb0 := hok0 g _ (HGO.out _) (by simpa using hgne) (by intro c fz; simp)
          have hbw0 := (HBO.out _).trans hbl0
          have hy0 := hbl0.size
          simp only [World.size_alloc] at hy0
          have q00 : x0.cell? ⟨wr.heap.size, 0, none⟩ = some (.bool true) := by rw [Lib.cell_of_heap hpb0]; rfl
          have q01 : x0.cell? ⟨wr.heap.size, 1, none⟩ = some (.bool true) := by rw [Lib.cell_of_heap hpb0]; rfl
          have q02 : x0.cell? ⟨wr.heap.size, 2, none⟩ = some (.string (str p.tx)) := by rw [Lib.cell_of_heap hpb0]; rfl
          clear hok0 hbl0
          go_wp2_with fail
          refine (buk_writeString w.heap.size w.heap.size (acc ++ [45]) (str p.tx) _ (hbu0) (by simp; omega) (by omega)).mono ?_
          rintro e x1 ⟨rfl, hbu1, hbl1, hok1⟩
          have hpb1 := hok1 wr.heap.size _ hpb0 (by simp; omega) (by intro c fz; simp)
          have hgb1 := hok1 g _ hgb0 (by simpa using hgne) (by intro c fz; simp)
          have hbw1 := hbw0.trans hbl1
          have hy1 := hbl1.size
          have HL := Lib.hid (show Bld w.heap.size w.heap.size (canUp l (k + 1)) x1 by
            rw [HNX.out, HE.out]
            rw [toList_str] at hbu1
            simpa [List.append_assoc] using hbu1)
          go_wp2
          exact ⟨⟨k + 1, by omega, by go_num, HL.out, hbw1, hgb1⟩, by simp [intOf]; omega⟩
      · rcases hpn with hnu | ⟨hnu, hem, hz1, hz2⟩ | ⟨hnu, hem, hz2⟩
        · rw [hhy] at c0
          rw [hnu] at c1
          have HE := Lib.hid (show canP k p = [46] ++ p.tx by simp [canP, Nat.pos_iff_ne_zero.1 hk0, hhy, hnu])
          clear hnu hhy hk0
          go_wp2_with fail
          refine (buk_writeByte w.heap.size w.heap.size (acc) 46 _ (HAL.out _) (by omega) (HSZ.out _)).mono ?_
          rintro e x0 ⟨rfl, hbu0, hbl0, hok0⟩
          have hpb0 := hok0 wr.heap.size _ (heap_alloc_new wr _) (by simp; omega) (by intro c fz; simp)
          have hgb0 := hok0 g _ (HGO.out _) (by simpa using hgne) (by intro c fz; simp)
          have hbw0 := (HBO.out _).trans hbl0
          have hy0 := hbl0.size
          simp only [World.size_alloc] at hy0
          have q00 : x0.cell? ⟨wr.heap.size, 0, none⟩ = some (.bool false) := by rw [Lib.cell_of_heap hpb0]; rfl
          have q01 : x0.cell? ⟨wr.heap.size, 1, none⟩ = some (.bool false) := by rw [Lib.cell_of_heap hpb0]; rfl
          have q02 : x0.cell? ⟨wr.heap.size, 2, none⟩ = some (.string (str p.tx)) := by rw [Lib.cell_of_heap hpb0]; rfl
          clear hok0 hbl0
          go_wp2_with fail
          refine (buk_writeString w.heap.size w.heap.size (acc ++ [46]) (str p.tx) _ (hbu0) (by simp; omega) (by omega)).mono ?_
          rintro e x1 ⟨rfl, hbu1, hbl1, hok1⟩
          have hpb1 := hok1 wr.heap.size _ hpb0 (by simp; omega) (by intro c fz; simp)
          have hgb1 := hok1 g _ hgb0 (by simpa using hgne) (by intro c fz; simp)
          have hbw1 := hbw0.trans hbl1
          have hy1 := hbl1.size
          have HL := Lib.hid (show Bld w.heap.size w.heap.size (canUp l (k + 1)) x1 by
            rw [HNX.out, HE.out]
            rw [toList_str] at hbu1
            simpa [List.append_assoc] using hbu1)
          go_wp2
          exact ⟨⟨k + 1, by omega, by go_num, HL.out, hbw1, hgb1⟩, by simp [intOf]; omega⟩
        · rw [hhy] at c0
          rw [hnu] at c1
          have HE := Lib.hid (show canP k p = [46] ++ [48] ++ p.tx by simp [canP, Nat.pos_iff_ne_zero.1 hk0, hhy, hnu, hem])
          clear hnu hhy hem hk0
          go_wp2_with fail
          refine (buk_writeByte w.heap.size w.heap.size (acc) 46 _ (HAL.out _) (by omega) (HSZ.out _)).mono ?_
          rintro e x0 ⟨rfl, hbu0, hbl0, hok0⟩
          have hpb0 := hok0 wr.heap.size _ (heap_alloc_new wr _) (by simp; omega) (by intro c fz; simp)
          have hgb0 := hok0 g _ (HGO.out _) (by simpa using hgne) (by intro c fz; simp)
          have hbw0 := (HBO.out _).trans hbl0
          have hy0 := hbl0.size
          simp only [World.size_alloc] at hy0
          have q00 : x0.cell? ⟨wr.heap.size, 0, none⟩ = some (.bool false) := by rw [Lib.cell_of_heap hpb0]; rfl
          have q01 : x0.cell? ⟨wr.heap.size, 1, none⟩ = some (.bool true) := by rw [Lib.cell_of_heap hpb0]; rfl
          have q02 : x0.cell? ⟨wr.heap.size, 2, none⟩ = some (.string (str p.tx)) := by rw [Lib.cell_of_heap hpb0]; rfl
          clear hok0 hbl0
          go_wp2_with fail
          refine (buk_writeByte w.heap.size w.heap.size (acc ++ [46]) 48 _ (hbu0) (by simp; omega) (by omega)).mono ?_
          rintro e x1 ⟨rfl, hbu1, hbl1, hok1⟩
          have hpb1 := hok1 wr.heap.size _ hpb0 (by simp; omega) (by intro c fz; simp)
          have hgb1 := hok1 g _ hgb0 (by simpa using hgne) (by intro c fz; simp)
          have hbw1 := hbw0.trans hbl1
          have hy1 := hbl1.size
          have q10 : x1.cell? ⟨wr.heap.size, 0, none⟩ = some (.bool false) := by rw [Lib.cell_of_heap hpb1]; rfl
          have q11 : x1.cell? ⟨wr.heap.size, 1, none⟩ = some (.bool true) := by rw [Lib.cell_of_heap hpb1]; rfl
          have q12 : x1.cell? ⟨wr.heap.size, 2, none⟩ = some (.string (str p.tx)) := by rw [Lib.cell_of_heap hpb1]; rfl
          clear hok1 hbl1
          go_wp2_with fail
          refine (buk_writeString w.heap.size w.heap.size (acc ++ [46] ++ [48]) (str p.tx) _ (hbu1) (by simp; omega) (by omega)).mono ?_
          rintro e x2 ⟨rfl, hbu2, hbl2, hok2⟩
          have hpb2 := hok2 wr.heap.size _ hpb1 (by simp; omega) (by intro c fz; simp)
          have hgb2 := hok2 g _ hgb1 (by simpa using hgne) (by intro c fz; simp)
          have hbw2 := hbw1.trans hbl2
          have hy2 := hbl2.size
          have HL := Lib.hid (show Bld w.heap.size w.heap.size (canUp l (k + 1)) x2 by
            rw [HNX.out, HE.out]
            rw [toList_str] at hbu2
            simpa [List.append_assoc] using hbu2)
          go_wp2
          exact ⟨⟨k + 1, by omega, by go_num, HL.out, hbw2, hgb2⟩, by simp [intOf]; omega⟩
        · rw [hhy] at c0
          rw [hnu] at c1
          have HE := Lib.hid (show canP k p = [46] ++ p.tx by simp [canP, Nat.pos_iff_ne_zero.1 hk0, hhy, hnu, hem])
          clear hnu hhy hem hk0
          go_wp2_with fail
          refine (buk_writeByte w.heap.size w.heap.size (acc) 46 _ (HAL.out _) (by omega) (HSZ.out _)).mono ?_
          rintro e x0 ⟨rfl, hbu0, hbl0, hok0⟩
          have hpb0 := hok0 wr.heap.size _ (heap_alloc_new wr _) (by simp; omega) (by intro c fz; simp)
          have hgb0 := hok0 g _ (HGO.out _) (by simpa using hgne) (by intro c fz; simp)
          have hbw0 := (HBO.out _).trans hbl0
          have hy0 := hbl0.size
          simp only [World.size_alloc] at hy0
          have q00 : x0.cell? ⟨wr.heap.size, 0, none⟩ = some (.bool false) := by rw [Lib.cell_of_heap hpb0]; rfl
          have q01 : x0.cell? ⟨wr.heap.size, 1, none⟩ = some (.bool true) := by rw [Lib.cell_of_heap hpb0]; rfl
          have q02 : x0.cell? ⟨wr.heap.size, 2, none⟩ = some (.string (str p.tx)) := by rw [Lib.cell_of_heap hpb0]; rfl
          clear hok0 hbl0
          go_wp2_with fail
          refine (buk_writeString w.heap.size w.heap.size (acc ++ [46]) (str p.tx) _ (hbu0) (by simp; omega) (by omega)).mono ?_
          rintro e x1 ⟨rfl, hbu1, hbl1, hok1⟩
          have hpb1 := hok1 wr.heap.size _ hpb0 (by simp; omega) (by intro c fz; simp)
          have hgb1 := hok1 g _ hgb0 (by simpa using hgne) (by intro c fz; simp)
          have hbw1 := hbw0.trans hbl1
          have hy1 := hbl1.size
          have HL := Lib.hid (show Bld w.heap.size w.heap.size (canUp l (k + 1)) x1 by
            rw [HNX.out, HE.out]
            rw [toList_str] at hbu1
            simpa [List.append_assoc] using hbu1)
          go_wp2
          exact ⟨⟨k + 1, by omega, by go_num, HL.out, hbw1, hgb1⟩, by simp [intOf]; omega⟩
    · have hkn : k = n' := by omega
      subst hkn
      go_wp2_with fail
      refine (Tryd.Builder_String_any w.heap.size w.heap.size _ _ hbu hz).mono ?_
      rintro e w2 ⟨rfl, hb2⟩
      go_wp2
      go_ret
      exact ⟨ret_str (by rw [HCB.out]; rfl), hbel.trans hb2⟩
end Go.Proofs.YtmfknlmjpfiajaaDoor
