/-
  Layer 2: the statement TokenTags: for every name, attributes and number. Own work.
-/
import Derived.Test.YtldgjiohigiioaaLaws02a
import Derived.Test.YtldgjiohigiioaaName2b
import Derived.Test.YtldgjiohigiioaaSame2
import Derived.Test.YtldgjiohigiioaaOpenT2
import Derived.ChangeSlices
namespace Go.Proofs.Ytldgjiohigiioaa
set_option linter.unusedVariables false
set_option linter.unusedSimpArgs false
open Go.ChangeShapes Go.WideShapes Go.ChangeAt Go.RowKit
open Go.ChangeMaps (open_string shut_string)

theorem str_of (s : ByteArray) : s = str s.data.toList := by unfold str; rw [Array.toArray_toList]
theorem empty_str (l : List UInt8) : ((str l).toList == ([] : List UInt8)) = l.isEmpty := by
  rw [ByteArray.toList_eq, toList_str]
  cases l <;> rfl
theorem isEmpty_str (l : List UInt8) : (str l).toList.isEmpty = l.isEmpty := by rw [ByteArray.toList_eq, toList_str]
/-- how long a tag's text is -/
theorem pc_len {p : Bool × At2} (h1 : p.2.1.length ≤ 500) (h2 : p.2.2.length ≤ 500) : (pcA p).length ≤ 3520 := by
  obtain ⟨b, n, v⟩ := p
  have e1 := escS_len true v
  have e2 : (v.flatMap eA).length ≤ 6 * v.length := by
    have hA : ∀ c : UInt8, (eA c).length ≤ 6 := by
      intro c
      cases hok : escOk true c with
      | true => rw [eA, apos_no (esc1_39 hok)]; exact esc1_len true c
      | false =>
        rw [eA, esc1_no hok, aposL, List.flatMap_cons, List.flatMap_nil, List.append_nil]
        unfold apos1; split <;> simp
    clear h1 h2 e1
    induction v with
    | nil => simp
    | cons c v ih =>
      have := hA c
      simp only [List.flatMap_cons, List.length_append, List.length_cons] at ih ⊢
      omega
  cases b <;> simp only [pcA, List.length_cons, List.length_append, List.length_nil] at * <;> omega
theorem tag_snoc (n : List UInt8) (bs : List (Bool × At2)) (p : Bool × At2) : tagT n (bs ++ [p]) = tagT n bs ++ pcA p := by simp [tagT]
/-- one token in a row -/
theorem rd_one {w : World} {b : Nat} {k : Int} {n t : List UInt8} {v : Value} {L : List At2} (h : w.heap[b]? = some (.cells #[.int .i64 k, .string (str n), v, .string (str t), .int .i64 0, .int .i64 0, .int .i64 0] 34 (0, 0))) (hr : RdAs w v L) :
    RdTs w (.slice (some ⟨b, 0, none⟩) 1 1) [⟨k, n, L, t, 0, 0, 0⟩] := by
  refine .inr ⟨⟨b, 0, none⟩, 1, rfl, by simp, by omega, fun i x hx => ?_⟩
  cases i with
  | zero =>
    simp only [List.getElem?_cons_zero, Option.some.injEq] at hx
    subst hx
    rw [Nat.zero_mul, add_0]
    refine ⟨v, ⟨?_, ?_, ?_, ?_, ?_, ?_, ?_⟩, hr⟩
    all_goals (rw [cell_of_row w b _ _ _ (0, 0) h]; rfl)
  | succ i => simp at hx
theorem cat_true (t n a : List UInt8) : str t ++ (((⟨#[10]⟩ ++ str n) ++ ⟨#[32, 61, 9, 39]⟩) ++ str a ++ ⟨#[39]⟩) = str (t ++ (10 :: (n ++ [32, 61, 9, 39] ++ a ++ [39]))) := by
  show str t ++ (((str [10] ++ str n) ++ str [32, 61, 9, 39]) ++ str a ++ str [39]) = _
  simp only [app_str]
  simp
theorem cat_false (t n a : List UInt8) : str t ++ (((⟨#[32]⟩ ++ str n) ++ ⟨#[61, 34]⟩) ++ str a ++ ⟨#[34]⟩) = str (t ++ (32 :: (n ++ [61, 34] ++ a ++ [34]))) := by
  show str t ++ (((str [32] ++ str n) ++ str [61, 34]) ++ str a ++ str [34]) = _
  simp only [app_str]
  simp
theorem no_dup_snoc {bs : List (Bool × At2)} {L : List At2} {k : Nat} {p : At2} {b : Bool} (hm : bs.map (·.2) = L.take k) (hn : ∀ a ∈ L.take k, a.1 ≠ p.1) (h : (bs.map (fun q => q.2.1)).Nodup) : ((bs ++ [(b, p)]).map (fun q => q.2.1)).Nodup := by
  rw [List.map_append, List.nodup_append]
  refine ⟨h, by simp, fun a ha c hc => ?_⟩
  rw [List.map_cons, List.map_nil, List.mem_singleton] at hc
  subst hc
  obtain ⟨q, hq, rfl⟩ := List.mem_map.1 ha
  exact hn q.2 (by rw [← hm]; exact List.mem_map_of_mem hq)
theorem tag_round {nm n v : List UInt8} {L : List At2} {k : Nat} {bs : List (Bool × At2)} (b : Bool) (hx : L[k]? = some (n, v)) (hm : bs.map (·.2) = L.take k) (hok : ∀ p ∈ bs, okA p.2) (hnd : (bs.map (fun q => q.2.1)).Nodup) (htl : (tagT nm bs).length ≤ 501 + k * 3520)
    (hN : isN n) (ht : ∀ c ∈ v, tx c = true) (hno : ∀ a ∈ L.take k, a.1 ≠ n) (h1 : n.length ≤ 500) (h2 : v.length ≤ 500) :
    (bs ++ [(b, (n, v))]).map (·.2) = L.take (k + 1) ∧ (∀ p ∈ bs ++ [(b, (n, v))], okA p.2) ∧ ((bs ++ [(b, (n, v))]).map (fun q => q.2.1)).Nodup ∧ (tagT nm (bs ++ [(b, (n, v))])).length ≤ 501 + (k + 1) * 3520 := by
  refine ⟨?_, ?_, no_dup_snoc hm hno hnd, ?_⟩
  · rw [List.map_append, hm, take_snoc _ k _ hx]; rfl
  · intro p hp
    rcases List.mem_append.1 hp with hp | hp
    · exact hok p hp
    · rw [List.mem_singleton] at hp
      subst hp
      exact ⟨hN, ht⟩
  · have h3 := pc_len (p := (b, (n, v))) h1 h2
    rw [tag_snoc, List.length_append]; omega
set_option maxRecDepth 100000 in
set_option maxHeartbeats 8000000 in
theorem walk_TokenTags (s : ByteArray) (hs : s.size ≤ 9223372036854775807) (va : Value) (L : List At2) (w : World) (hv : RdAs w va L) (hL : ∀ p ∈ L, p.1.length ≤ 9223372036854775807 ∧ p.2.length ≤ 9223372036854775807) (how : Int) (hh : 0 ≤ how ∧ how ≤ 18446744073709551615) :
    Calls Try.prog 8 #[.string s, va, .int .u64 how] w fun e w' => e = .returned (.bool true) ∧ Below w.heap.size w w' := by
  have HLV := Lib.hid (fun w => lives02 w)
  obtain ⟨nm, hnm⟩ : ∃ nm, nm = s.data.toList := ⟨_, rfl⟩
  have hss := str_of s
  rw [← hnm] at hss
  subst hss
  clear hnm
  obtain ⟨va0, vc0, hvs⟩ := RdSl.shape hv
  subst hvs
  have hlen := RdSl.len hv
  have hlenI : (L.length : Int) ≤ 9223372036854775807 := by omega
  have HCAP := Lib.hid (show L.length ≤ vc0 ∧ vc0 ≤ 9223372036854775807 by
    rcases hv with ⟨h, hl⟩ | ⟨a, cap, h, h1, h2, _⟩
    · simp only [Value.slice.injEq] at h
      omega
    · simp only [Value.slice.injEq] at h
      omega)
  have HV := Lib.hid hv
  have HLB := Lib.hid hL
  have hsz := size_str nm
  have HSZ := Lib.hid hsz
  have hszI : ((str nm).size : Int) ≤ 9223372036854775807 := by omega
  have HNM := Lib.hid (fun w => refName_big (str nm) hs w)
  clear hL hv hlen
  go_enter Try.func8, Try.ntmps8
  go_upto_region 1 with fail
  go_cut [38] from 20 to 171 (fun t wx => wx = w ∧ ∃ b, t = .bool b ∧ (b = false → isN nm ∧ nm.length ≤ 500 ∧ L.length ≤ 8))
  case first =>
    have hem := empty_str nm
    have hem2 := isEmpty_str nm
    by_cases h1 : nameL nm = nm.length
    · have hq1 : ((nameL nm : Int) != ((str nm).size : Int)) = false := by rw [hsz, h1]; simp
      by_cases h2 : nm = []
      · rw [h2] at hem hem2
        have he : ((str nm).toList == ([] : List UInt8)) = true := by rw [empty_str, h2]; rfl
        have he2 : (str nm).toList.isEmpty = true := by rw [isEmpty_str, h2]; rfl
        have H1 := Lib.hid h1
        clear h1 h2 hem hem2 hsz
        go_wp2_with (go_at_call 20; refine (HNM.out _).mono ?_; rintro e w' ⟨m, rfl, hm, rfl⟩; obtain rfl := name_one hm (nameL_is nm); clear hm)
        go_meet
        exact ⟨rfl, true, rfl, by simp⟩
      · have he : ((str nm).toList == ([] : List UInt8)) = false := by rw [empty_str]; simpa using h2
        have he2 : (str nm).toList.isEmpty = false := by rw [isEmpty_str]; simpa using h2
        have HOK := Lib.hid (show isN nm from ⟨h2, h1⟩)
        clear h1 h2 hem hem2 hsz
        by_cases h3 : 500 < nm.length
        · have h3I : (500 : Int) < ((str nm).size : Int) := by rw [HSZ.out]; omega
          clear h3
          go_wp2_with (go_at_call 20; refine (HNM.out _).mono ?_; rintro e w' ⟨m, rfl, hm, rfl⟩; obtain rfl := name_one hm (nameL_is nm); clear hm)
          go_meet
          exact ⟨rfl, true, rfl, by simp⟩
        · have h3I : ((str nm).size : Int) ≤ 500 := by rw [HSZ.out]; omega
          have H3 := Lib.hid h3
          clear h3
          by_cases h4 : 8 < L.length
          · have h4I : (8 : Int) < (L.length : Int) := by omega
            clear h4
            go_wp2_with (go_at_call 20; refine (HNM.out _).mono ?_; rintro e w' ⟨m, rfl, hm, rfl⟩; obtain rfl := name_one hm (nameL_is nm); clear hm)
            go_meet
            exact ⟨rfl, true, rfl, by simp⟩
          · have h4I : (L.length : Int) ≤ 8 := by omega
            have H4 := Lib.hid h4
            clear h4
            go_wp2_with (go_at_call 20; refine (HNM.out _).mono ?_; rintro e w' ⟨m, rfl, hm, rfl⟩; obtain rfl := name_one hm (nameL_is nm); clear hm)
            go_meet
            exact ⟨rfl, false, by rw [decide_eq_false (by omega), decide_eq_false (by omega)]; rfl, fun _ => ⟨HOK.out, by have := H3.out; omega, by have := H4.out; omega⟩⟩
    · have hq1 : ((nameL nm : Int) != ((str nm).size : Int)) = true := by rw [bne_iff_ne, hsz]; omega
      clear h1 hem hem2 hsz
      go_wp2_with (go_at_call 20; refine (HNM.out _).mono ?_; rintro e w' ⟨m, rfl, hm, rfl⟩; obtain rfl := name_one hm (nameL_is nm); clear hm)
      go_meet
      exact ⟨rfl, true, rfl, by simp⟩
  case rest =>
    obtain ⟨hwc, b, rfl, hb⟩ := hcut
    obtain rfl : w = wc := hwc.symm
    clear hwc
    cases b with
    | true =>
      clear hb
      go_wp2_with fail
      refine (HLV.out _).mono ?_
      rintro e w2 ⟨rfl, hb2⟩
      go_wp2
      go_ret
      exact ⟨rfl, hb2⟩
    | false =>
      obtain ⟨hN, hl5, hl8⟩ := hb rfl
      have HN := Lib.hid hN
      have HL5 := Lib.hid hl5
      have HL8 := Lib.hid hl8
      have hs5 : ((str nm).size : Int) ≤ 500 := by omega
      clear hb hN hl5 hl8 hsz
      have HTG := Lib.hid (show (⟨#[60]⟩ : ByteArray) ++ str nm = str (tagT nm []) by rw [show (⟨#[60]⟩ : ByteArray) = str [60] from rfl, app_str]; simp [tagT])
      go_upto_region 4 with fail
      rw [HTG.out]
      go_wp2_with fail
      have HT0 := Lib.hid (show (tagT nm []).length ≤ 501 by have := HL5.out; simp [tagT]; omega)
      go_loopw [7, 44] (fun t i wr => ∃ (k : Nat) (bs : List (Bool × At2)), k ≤ L.length ∧ i = .int .i64 k ∧ t = .string (str (tagT nm bs)) ∧ bs.map (·.2) = L.take k ∧ (∀ p ∈ bs, okA p.2) ∧ (bs.map (fun q => q.2.1)).Nodup ∧ (tagT nm bs).length ≤ 501 + k * 3520 ∧ Below w.heap.size w wr) (fun _ i _ => L.length - (intOf i).toNat)
      case atStart => exact ⟨0, [], by omega, rfl, rfl, rfl, by simp, by simp, by have := HT0.out; omega, Below.refl _ _⟩
      case round =>
        clear HT0
        obtain ⟨k, bs, hk, rfl, rfl, hmap, hok, hnd, htl, hbw⟩ := hrel
        have HMAP := Lib.hid hmap
        have HOK := Lib.hid hok
        have HND := Lib.hid hnd
        have HTL := Lib.hid htl
        have HBW := Lib.hid hbw
        clear hmap hok hnd htl
        by_cases hlt : k < L.length
        · obtain ⟨x, hx⟩ : ∃ x, L[k]? = some x := ⟨_, List.getElem?_eq_getElem hlt⟩
          obtain ⟨bb, e1, d0, d1⟩ := RdSl.elem (HV.out.below hbw (Nat.le_refl _)) hx
          subst e1
          obtain ⟨n, v⟩ := x
          have HX := Lib.hid hx
          have hbd := HLB.out _ (List.mem_of_getElem? hx)
          have HBD := Lib.hid hbd
          obtain ⟨wb, hwb⟩ : ∃ wb, wb = wr.alloc (.cells #[.string (str n), .string (str v)] 46) := ⟨_, rfl⟩
          have hbb : Below wr.heap.size wr wb := by rw [hwb]; exact (Below.refl _ _).alloc (Nat.le_refl _) _
          have hrow : wb.heap[wr.heap.size]? = some (.cells #[.string (str n), .string (str v)] 46 (0, 0)) := by rw [hwb]; exact heap_alloc_new wr _
          have HBB := Lib.hid (HBW.out.trans (hbb.mono HBW.out.size))
          have HROW := Lib.hid hrow
          have HWB := Lib.hid hwb
          have hkI : (k : Int) < (L.length : Int) := by omega
          clear hbw hwb hbb hrow hx hbd
          go_upto_region 7 with fail
          rw [← HWB.out]
          generalize wr.heap.size = KB at HROW ⊢
          clear d0 d1
          have C0 := Lib.hid (fun w1 (hb : Below wb.heap.size wb w1) => (show w1.cell? ⟨KB, 0, none⟩ = some (.string (str n)) from by rw [cell_of_row w1 KB 0 _ _ (0, 0) ((hb.block KB (Array.getElem?_eq_some_iff.1 HROW.out).1).trans HROW.out)]; rfl))
          have C1 := Lib.hid (fun w1 (hb : Below wb.heap.size wb w1) => (show w1.cell? ⟨KB, 1, none⟩ = some (.string (str v)) from by rw [cell_of_row w1 KB 1 _ _ (0, 0) ((hb.block KB (Array.getElem?_eq_some_iff.1 HROW.out).1).trans HROW.out)]; rfl))
          have hnz := size_str n
          have hvz := size_str v
          have HNZ := Lib.hid hnz
          have HVZ := Lib.hid hvz
          have HNA := Lib.hid (fun w => refName_big (str n) (by rw [size_str]; exact HBD.out.1) w)
          go_cut [72] from 45 to 131 (fun t wx => Below wb.heap.size wb wx ∧ ∃ b, t = .bool b ∧ (b = false → isN n ∧ n.length ≤ 500 ∧ v.length ≤ 500))
          case first =>
            by_cases h1 : nameL n = n.length
            · have hq1 : ((nameL n : Int) != ((str n).size : Int)) = false := by rw [hnz, h1]; simp
              by_cases h2 : n = []
              · have he : ((str n).toList == ([] : List UInt8)) = true := by rw [empty_str, h2]; rfl
                have he2 : (str n).toList.isEmpty = true := by rw [isEmpty_str, h2]; rfl
                clear h1 h2 hnz hvz
                refine wp_region_held_drew (S := (fun w1 => Below wb.heap.size wb w1)) (by kernel_rfl) (by (try dsimp only); exact (Below.refl _ _).drew) (fun hHeld => ?_)
                generalize wb.drew = wd at hHeld ⊢
                refine wpAnyH_take (i := 0) (v := ?_) (by (simp only [List.getElem?_toArray, List.getElem?_cons_succ, List.getElem?_cons_zero]; rfl)) (by kernel_rfl) (by kernel_rfl) (by kernel_rfl) (by intro _ _ _ h; exact h) (Or.inl ⟨by rfl, ?_⟩) (by assumption) ?_
                rotate_left
                · (intro w hSw; (try dsimp only at hSw); go_simp; try (with_reducible rfl))
                simp only [Act.put, List.setIfInBounds_toArray, List.set_cons_zero, List.set_cons_succ]
                refine wpAnyH_take (i := 1) (v := ?_) (by (simp only [List.getElem?_toArray, List.getElem?_cons_succ, List.getElem?_cons_zero]; rfl)) (by kernel_rfl) (by kernel_rfl) (by kernel_rfl) (by intro _ _ _ h; exact h) (Or.inl ⟨by rfl, ?_⟩) (by assumption) ?_
                rotate_left
                · (intro w hSw; have q1 := C0.out w hSw; go_simp; try (with_reducible rfl))
                simp only [Act.put, List.setIfInBounds_toArray, List.set_cons_zero, List.set_cons_succ]
                refine wpAnyH_take (i := 3) (v := ?_) (by (simp only [List.getElem?_toArray, List.getElem?_cons_succ, List.getElem?_cons_zero]; rfl)) (by kernel_rfl) (by kernel_rfl) (by kernel_rfl) (by intro _ _ _ h; exact h) (Or.inl ⟨by rfl, ?_⟩) (by assumption) ?_
                rotate_left
                · (intro w hSw; (try dsimp only at hSw); go_simp; try (with_reducible rfl))
                simp only [Act.put, List.setIfInBounds_toArray, List.set_cons_zero, List.set_cons_succ]
                refine wpAnyH_take (i := 4) (v := ?_) (by (simp only [List.getElem?_toArray, List.getElem?_cons_succ, List.getElem?_cons_zero]; rfl)) (by kernel_rfl) (by kernel_rfl) (by kernel_rfl) (by intro _ _ _ h; exact h) (Or.inl ⟨by rfl, ?_⟩) (by assumption) ?_
                rotate_left
                · (intro w hSw; have q1 := C0.out w hSw; go_simp; try (with_reducible rfl))
                simp only [Act.put, List.setIfInBounds_toArray, List.set_cons_zero, List.set_cons_succ]
                refine wpAnyH_take (i := 5) (v := ?_) (by (simp only [List.getElem?_toArray, List.getElem?_cons_succ, List.getElem?_cons_zero]; rfl)) (by kernel_rfl) (by kernel_rfl) (by kernel_rfl) (by intro _ _ _ h; exact h) (Or.inl ⟨by rfl, ?_⟩) (by assumption) ?_
                rotate_left
                · (intro w hSw; (try dsimp only at hSw); go_simp; try (with_reducible rfl))
                simp only [Act.put, List.setIfInBounds_toArray, List.set_cons_zero, List.set_cons_succ]
                refine wpAnyH_ready (rs := [2]) (by kernel_rfl) (by simp) ?_
                refine AllReadyH.cons (by (simp only [List.getElem?_toArray, List.getElem?_cons_succ, List.getElem?_cons_zero]; rfl)) (fun K hK => ?_) AllReadyH.nil
                go_simp
                go_at_call 20; refine (HNA.out _).mono ?_; rintro e w6 ⟨m, rfl, hm6, hw6⟩; obtain rfl := name_one hm6 (nameL_is n)
                refine hK.out _ _ (by (try dsimp only); rw [hw6]; exact hHeld) (fun hHeld => ?_)
                clear hK K
                try simp only [Act.put, List.setIfInBounds_toArray, List.set_cons_zero, List.set_cons_succ]
                clear hw6 hm6
                refine wpAnyH_take (i := 6) (v := ?_) (by (simp only [List.getElem?_toArray, List.getElem?_cons_succ, List.getElem?_cons_zero]; rfl)) (by kernel_rfl) (by kernel_rfl) (by kernel_rfl) (by intro _ _ _ h; exact h) (Or.inl ⟨by rfl, ?_⟩) (by assumption) ?_
                rotate_left
                · (intro w hSw; (try dsimp only at hSw); go_simp; try (with_reducible rfl))
                simp only [Act.put, List.setIfInBounds_toArray, List.set_cons_zero, List.set_cons_succ]
                refine wpAnyH_take (i := 7) (v := ?_) (by (simp only [List.getElem?_toArray, List.getElem?_cons_succ, List.getElem?_cons_zero]; rfl)) (by kernel_rfl) (by kernel_rfl) (by kernel_rfl) (by intro _ _ _ h; exact h) (Or.inl ⟨by rfl, ?_⟩) (by assumption) ?_
                rotate_left
                · (intro w hSw; (try dsimp only at hSw); go_simp; try (with_reducible rfl))
                simp only [Act.put, List.setIfInBounds_toArray, List.set_cons_zero, List.set_cons_succ]
                refine wpAnyH_take (i := 8) (v := ?_) (by (simp only [List.getElem?_toArray, List.getElem?_cons_succ, List.getElem?_cons_zero]; rfl)) (by kernel_rfl) (by kernel_rfl) (by kernel_rfl) (by intro _ _ _ h; exact h) (Or.inl ⟨by rfl, ?_⟩) (by assumption) ?_
                rotate_left
                · (intro w hSw; (try dsimp only at hSw); go_simp; try (with_reducible rfl))
                simp only [Act.put, List.setIfInBounds_toArray, List.set_cons_zero, List.set_cons_succ]
                refine wpAnyH_take (i := 9) (v := ?_) (by (simp only [List.getElem?_toArray, List.getElem?_cons_succ, List.getElem?_cons_zero]; rfl)) (by kernel_rfl) (by kernel_rfl) (by kernel_rfl) (by intro _ _ _ h; exact h) (Or.inl ⟨by rfl, ?_⟩) (by assumption) ?_
                rotate_left
                · (intro w hSw; have q1 := C0.out w hSw; go_simp; try (with_reducible rfl))
                simp only [Act.put, List.setIfInBounds_toArray, List.set_cons_zero, List.set_cons_succ]
                refine wpAnyH_take (i := 10) (v := ?_) (by (simp only [List.getElem?_toArray, List.getElem?_cons_succ, List.getElem?_cons_zero]; rfl)) (by kernel_rfl) (by kernel_rfl) (by kernel_rfl) (by intro _ _ _ h; exact h) (Or.inl ⟨by rfl, ?_⟩) (by assumption) ?_
                rotate_left
                · (intro w hSw; (try dsimp only at hSw); go_simp; try (with_reducible rfl))
                simp only [Act.put, List.setIfInBounds_toArray, List.set_cons_zero, List.set_cons_succ]
                refine wpAnyH_take (i := 11) (v := ?_) (by (simp only [List.getElem?_toArray, List.getElem?_cons_succ, List.getElem?_cons_zero]; rfl)) (by kernel_rfl) (by kernel_rfl) (by kernel_rfl) (by intro _ _ _ h; exact h) (Or.inl ⟨by rfl, ?_⟩) (by assumption) ?_
                rotate_left
                · (intro w hSw; (try dsimp only at hSw); go_simp; try (with_reducible rfl))
                simp only [Act.put, List.setIfInBounds_toArray, List.set_cons_zero, List.set_cons_succ]
                refine wpAnyH_take (i := 12) (v := ?_) (by (simp only [List.getElem?_toArray, List.getElem?_cons_succ, List.getElem?_cons_zero]; rfl)) (by kernel_rfl) (by kernel_rfl) (by kernel_rfl) (by intro _ _ _ h; exact h) (Or.inl ⟨by rfl, ?_⟩) (by assumption) ?_
                rotate_left
                · (intro w hSw; (try dsimp only at hSw); go_simp; try (with_reducible rfl))
                simp only [Act.put, List.setIfInBounds_toArray, List.set_cons_zero, List.set_cons_succ]
                refine wpAnyH_take (i := 13) (v := undef) (by (simp only [List.getElem?_toArray, List.getElem?_cons_succ, List.getElem?_cons_zero]; rfl)) (by kernel_rfl) (by kernel_rfl) (by kernel_rfl) (by intro _ _ _ h; exact h) (Or.inr ⟨by rfl, rfl⟩) (by assumption) ?_
                simp only [Act.put, List.setIfInBounds_toArray, List.set_cons_zero, List.set_cons_succ]
                refine wpAnyH_take (i := 14) (v := undef) (by (simp only [List.getElem?_toArray, List.getElem?_cons_succ, List.getElem?_cons_zero]; rfl)) (by kernel_rfl) (by kernel_rfl) (by kernel_rfl) (by intro _ _ _ h; exact h) (Or.inr ⟨by rfl, rfl⟩) (by assumption) ?_
                simp only [Act.put, List.setIfInBounds_toArray, List.set_cons_zero, List.set_cons_succ]
                refine wpAnyH_take (i := 15) (v := undef) (by (simp only [List.getElem?_toArray, List.getElem?_cons_succ, List.getElem?_cons_zero]; rfl)) (by kernel_rfl) (by kernel_rfl) (by kernel_rfl) (by intro _ _ _ h; exact h) (Or.inr ⟨by rfl, rfl⟩) (by assumption) ?_
                simp only [Act.put, List.setIfInBounds_toArray, List.set_cons_zero, List.set_cons_succ]
                refine wpAnyH_take (i := 16) (v := undef) (by (simp only [List.getElem?_toArray, List.getElem?_cons_succ, List.getElem?_cons_zero]; rfl)) (by kernel_rfl) (by kernel_rfl) (by kernel_rfl) (by intro _ _ _ h; exact h) (Or.inr ⟨by rfl, rfl⟩) (by assumption) ?_
                simp only [Act.put, List.setIfInBounds_toArray, List.set_cons_zero, List.set_cons_succ]
                refine wpAnyH_take (i := 17) (v := ?_) (by (simp only [List.getElem?_toArray, List.getElem?_cons_succ, List.getElem?_cons_zero]; rfl)) (by kernel_rfl) (by kernel_rfl) (by kernel_rfl) (by intro _ _ _ h; exact h) (Or.inl ⟨by rfl, ?_⟩) (by assumption) ?_
                rotate_left
                · (intro w hSw; (try dsimp only at hSw); go_simp; try (with_reducible rfl))
                simp only [Act.put, List.setIfInBounds_toArray, List.set_cons_zero, List.set_cons_succ]
                refine wpAnyH_take (i := 18) (v := ?_) (by (simp only [List.getElem?_toArray, List.getElem?_cons_succ, List.getElem?_cons_zero]; rfl)) (by kernel_rfl) (by kernel_rfl) (by kernel_rfl) (by intro _ _ _ h; exact h) (Or.inl ⟨by rfl, ?_⟩) (by assumption) ?_
                rotate_left
                · (intro w hSw; (try dsimp only at hSw); go_simp; try (with_reducible rfl))
                simp only [Act.put, List.setIfInBounds_toArray, List.set_cons_zero, List.set_cons_succ]
                refine wpAnyH_take (i := 19) (v := undef) (by (simp only [List.getElem?_toArray, List.getElem?_cons_succ, List.getElem?_cons_zero]; rfl)) (by kernel_rfl) (by kernel_rfl) (by kernel_rfl) (by intro _ _ _ h; exact h) (Or.inr ⟨by rfl, rfl⟩) (by assumption) ?_
                simp only [Act.put, List.setIfInBounds_toArray, List.set_cons_zero, List.set_cons_succ]
                refine wpAnyH_take (i := 20) (v := undef) (by (simp only [List.getElem?_toArray, List.getElem?_cons_succ, List.getElem?_cons_zero]; rfl)) (by kernel_rfl) (by kernel_rfl) (by kernel_rfl) (by intro _ _ _ h; exact h) (Or.inr ⟨by rfl, rfl⟩) (by assumption) ?_
                simp only [Act.put, List.setIfInBounds_toArray, List.set_cons_zero, List.set_cons_succ]
                refine wpAnyH_take (i := 21) (v := undef) (by (simp only [List.getElem?_toArray, List.getElem?_cons_succ, List.getElem?_cons_zero]; rfl)) (by kernel_rfl) (by kernel_rfl) (by kernel_rfl) (by intro _ _ _ h; exact h) (Or.inr ⟨by rfl, rfl⟩) (by assumption) ?_
                simp only [Act.put, List.setIfInBounds_toArray, List.set_cons_zero, List.set_cons_succ]
                refine wpAnyH_take (i := 22) (v := undef) (by (simp only [List.getElem?_toArray, List.getElem?_cons_succ, List.getElem?_cons_zero]; rfl)) (by kernel_rfl) (by kernel_rfl) (by kernel_rfl) (by intro _ _ _ h; exact h) (Or.inr ⟨by rfl, rfl⟩) (by assumption) ?_
                simp only [Act.put, List.setIfInBounds_toArray, List.set_cons_zero, List.set_cons_succ]
                refine wpAnyH_take (i := 23) (v := ?_) (by (simp only [List.getElem?_toArray, List.getElem?_cons_succ, List.getElem?_cons_zero]; rfl)) (by kernel_rfl) (by kernel_rfl) (by kernel_rfl) (by intro _ _ _ h; exact h) (Or.inl ⟨by rfl, ?_⟩) (by assumption) ?_
                rotate_left
                · (intro w hSw; (try dsimp only at hSw); go_simp; try (with_reducible rfl))
                simp only [Act.put, List.setIfInBounds_toArray, List.set_cons_zero, List.set_cons_succ]
                refine wpAnyH_done (by kernel_rfl) ?_ _
                go_wp2_with fail
                go_meet
                exact ⟨hHeld, true, rfl, by simp⟩
              · have he : ((str n).toList == ([] : List UInt8)) = false := by rw [empty_str]; simpa using h2
                have he2 : (str n).toList.isEmpty = false := by rw [isEmpty_str]; simpa using h2
                have HOKN := Lib.hid (show isN n from ⟨h2, h1⟩)
                clear h1 h2
                by_cases h3 : 500 < n.length
                · have h3I : decide ((500 : Int) < ((str n).size : Int)) = true := decide_eq_true (by rw [HNZ.out]; omega)
                  clear h3 hnz hvz
                  refine wp_region_held_drew (S := (fun w1 => Below wb.heap.size wb w1)) (by kernel_rfl) (by (try dsimp only); exact (Below.refl _ _).drew) (fun hHeld => ?_)
                  generalize wb.drew = wd at hHeld ⊢
                  refine wpAnyH_take (i := 0) (v := ?_) (by (simp only [List.getElem?_toArray, List.getElem?_cons_succ, List.getElem?_cons_zero]; rfl)) (by kernel_rfl) (by kernel_rfl) (by kernel_rfl) (by intro _ _ _ h; exact h) (Or.inl ⟨by rfl, ?_⟩) (by assumption) ?_
                  rotate_left
                  · (intro w hSw; (try dsimp only at hSw); go_simp; try (with_reducible rfl))
                  simp only [Act.put, List.setIfInBounds_toArray, List.set_cons_zero, List.set_cons_succ]
                  refine wpAnyH_take (i := 1) (v := ?_) (by (simp only [List.getElem?_toArray, List.getElem?_cons_succ, List.getElem?_cons_zero]; rfl)) (by kernel_rfl) (by kernel_rfl) (by kernel_rfl) (by intro _ _ _ h; exact h) (Or.inl ⟨by rfl, ?_⟩) (by assumption) ?_
                  rotate_left
                  · (intro w hSw; have q1 := C0.out w hSw; go_simp; try (with_reducible rfl))
                  simp only [Act.put, List.setIfInBounds_toArray, List.set_cons_zero, List.set_cons_succ]
                  refine wpAnyH_take (i := 3) (v := ?_) (by (simp only [List.getElem?_toArray, List.getElem?_cons_succ, List.getElem?_cons_zero]; rfl)) (by kernel_rfl) (by kernel_rfl) (by kernel_rfl) (by intro _ _ _ h; exact h) (Or.inl ⟨by rfl, ?_⟩) (by assumption) ?_
                  rotate_left
                  · (intro w hSw; (try dsimp only at hSw); go_simp; try (with_reducible rfl))
                  simp only [Act.put, List.setIfInBounds_toArray, List.set_cons_zero, List.set_cons_succ]
                  refine wpAnyH_take (i := 4) (v := ?_) (by (simp only [List.getElem?_toArray, List.getElem?_cons_succ, List.getElem?_cons_zero]; rfl)) (by kernel_rfl) (by kernel_rfl) (by kernel_rfl) (by intro _ _ _ h; exact h) (Or.inl ⟨by rfl, ?_⟩) (by assumption) ?_
                  rotate_left
                  · (intro w hSw; have q1 := C0.out w hSw; go_simp; try (with_reducible rfl))
                  simp only [Act.put, List.setIfInBounds_toArray, List.set_cons_zero, List.set_cons_succ]
                  refine wpAnyH_take (i := 5) (v := ?_) (by (simp only [List.getElem?_toArray, List.getElem?_cons_succ, List.getElem?_cons_zero]; rfl)) (by kernel_rfl) (by kernel_rfl) (by kernel_rfl) (by intro _ _ _ h; exact h) (Or.inl ⟨by rfl, ?_⟩) (by assumption) ?_
                  rotate_left
                  · (intro w hSw; (try dsimp only at hSw); go_simp; try (with_reducible rfl))
                  simp only [Act.put, List.setIfInBounds_toArray, List.set_cons_zero, List.set_cons_succ]
                  refine wpAnyH_ready (rs := [2]) (by kernel_rfl) (by simp) ?_
                  refine AllReadyH.cons (by (simp only [List.getElem?_toArray, List.getElem?_cons_succ, List.getElem?_cons_zero]; rfl)) (fun K hK => ?_) AllReadyH.nil
                  go_simp
                  go_at_call 20; refine (HNA.out _).mono ?_; rintro e w6 ⟨m, rfl, hm6, hw6⟩; obtain rfl := name_one hm6 (nameL_is n)
                  refine hK.out _ _ (by (try dsimp only); rw [hw6]; exact hHeld) (fun hHeld => ?_)
                  clear hK K
                  try simp only [Act.put, List.setIfInBounds_toArray, List.set_cons_zero, List.set_cons_succ]
                  clear hw6 hm6
                  refine wpAnyH_take (i := 6) (v := ?_) (by (simp only [List.getElem?_toArray, List.getElem?_cons_succ, List.getElem?_cons_zero]; rfl)) (by kernel_rfl) (by kernel_rfl) (by kernel_rfl) (by intro _ _ _ h; exact h) (Or.inl ⟨by rfl, ?_⟩) (by assumption) ?_
                  rotate_left
                  · (intro w hSw; (try dsimp only at hSw); go_simp; try (with_reducible rfl))
                  simp only [Act.put, List.setIfInBounds_toArray, List.set_cons_zero, List.set_cons_succ]
                  refine wpAnyH_take (i := 7) (v := ?_) (by (simp only [List.getElem?_toArray, List.getElem?_cons_succ, List.getElem?_cons_zero]; rfl)) (by kernel_rfl) (by kernel_rfl) (by kernel_rfl) (by intro _ _ _ h; exact h) (Or.inl ⟨by rfl, ?_⟩) (by assumption) ?_
                  rotate_left
                  · (intro w hSw; (try dsimp only at hSw); go_simp; try (with_reducible rfl))
                  simp only [Act.put, List.setIfInBounds_toArray, List.set_cons_zero, List.set_cons_succ]
                  refine wpAnyH_take (i := 8) (v := ?_) (by (simp only [List.getElem?_toArray, List.getElem?_cons_succ, List.getElem?_cons_zero]; rfl)) (by kernel_rfl) (by kernel_rfl) (by kernel_rfl) (by intro _ _ _ h; exact h) (Or.inl ⟨by rfl, ?_⟩) (by assumption) ?_
                  rotate_left
                  · (intro w hSw; (try dsimp only at hSw); go_simp; try (with_reducible rfl))
                  simp only [Act.put, List.setIfInBounds_toArray, List.set_cons_zero, List.set_cons_succ]
                  refine wpAnyH_take (i := 9) (v := ?_) (by (simp only [List.getElem?_toArray, List.getElem?_cons_succ, List.getElem?_cons_zero]; rfl)) (by kernel_rfl) (by kernel_rfl) (by kernel_rfl) (by intro _ _ _ h; exact h) (Or.inl ⟨by rfl, ?_⟩) (by assumption) ?_
                  rotate_left
                  · (intro w hSw; have q1 := C0.out w hSw; go_simp; try (with_reducible rfl))
                  simp only [Act.put, List.setIfInBounds_toArray, List.set_cons_zero, List.set_cons_succ]
                  refine wpAnyH_take (i := 10) (v := ?_) (by (simp only [List.getElem?_toArray, List.getElem?_cons_succ, List.getElem?_cons_zero]; rfl)) (by kernel_rfl) (by kernel_rfl) (by kernel_rfl) (by intro _ _ _ h; exact h) (Or.inl ⟨by rfl, ?_⟩) (by assumption) ?_
                  rotate_left
                  · (intro w hSw; (try dsimp only at hSw); go_simp; try (with_reducible rfl))
                  simp only [Act.put, List.setIfInBounds_toArray, List.set_cons_zero, List.set_cons_succ]
                  refine wpAnyH_take (i := 11) (v := ?_) (by (simp only [List.getElem?_toArray, List.getElem?_cons_succ, List.getElem?_cons_zero]; rfl)) (by kernel_rfl) (by kernel_rfl) (by kernel_rfl) (by intro _ _ _ h; exact h) (Or.inl ⟨by rfl, ?_⟩) (by assumption) ?_
                  rotate_left
                  · (intro w hSw; (try dsimp only at hSw); go_simp; try (with_reducible rfl))
                  simp only [Act.put, List.setIfInBounds_toArray, List.set_cons_zero, List.set_cons_succ]
                  refine wpAnyH_take (i := 12) (v := ?_) (by (simp only [List.getElem?_toArray, List.getElem?_cons_succ, List.getElem?_cons_zero]; rfl)) (by kernel_rfl) (by kernel_rfl) (by kernel_rfl) (by intro _ _ _ h; exact h) (Or.inl ⟨by rfl, ?_⟩) (by assumption) ?_
                  rotate_left
                  · (intro w hSw; (try dsimp only at hSw); go_simp; try (with_reducible rfl))
                  simp only [Act.put, List.setIfInBounds_toArray, List.set_cons_zero, List.set_cons_succ]
                  refine wpAnyH_take (i := 13) (v := ?_) (by (simp only [List.getElem?_toArray, List.getElem?_cons_succ, List.getElem?_cons_zero]; rfl)) (by kernel_rfl) (by kernel_rfl) (by kernel_rfl) (by intro _ _ _ h; exact h) (Or.inl ⟨by rfl, ?_⟩) (by assumption) ?_
                  rotate_left
                  · (intro w hSw; (try dsimp only at hSw); go_simp; try (with_reducible rfl))
                  simp only [Act.put, List.setIfInBounds_toArray, List.set_cons_zero, List.set_cons_succ]
                  refine wpAnyH_take (i := 14) (v := ?_) (by (simp only [List.getElem?_toArray, List.getElem?_cons_succ, List.getElem?_cons_zero]; rfl)) (by kernel_rfl) (by kernel_rfl) (by kernel_rfl) (by intro _ _ _ h; exact h) (Or.inl ⟨by rfl, ?_⟩) (by assumption) ?_
                  rotate_left
                  · (intro w hSw; have q1 := C0.out w hSw; go_simp; try (with_reducible rfl))
                  simp only [Act.put, List.setIfInBounds_toArray, List.set_cons_zero, List.set_cons_succ]
                  refine wpAnyH_take (i := 15) (v := ?_) (by (simp only [List.getElem?_toArray, List.getElem?_cons_succ, List.getElem?_cons_zero]; rfl)) (by kernel_rfl) (by kernel_rfl) (by kernel_rfl) (by intro _ _ _ h; exact h) (Or.inl ⟨by rfl, ?_⟩) (by assumption) ?_
                  rotate_left
                  · (intro w hSw; (try dsimp only at hSw); go_simp; try (with_reducible rfl))
                  simp only [Act.put, List.setIfInBounds_toArray, List.set_cons_zero, List.set_cons_succ]
                  refine wpAnyH_take (i := 16) (v := ?_) (by (simp only [List.getElem?_toArray, List.getElem?_cons_succ, List.getElem?_cons_zero]; rfl)) (by kernel_rfl) (by kernel_rfl) (by kernel_rfl) (by intro _ _ _ h; exact h) (Or.inl ⟨by rfl, ?_⟩) (by assumption) ?_
                  rotate_left
                  · (intro w hSw; (try dsimp only at hSw); go_simp; try (with_reducible rfl))
                  simp only [Act.put, List.setIfInBounds_toArray, List.set_cons_zero, List.set_cons_succ]
                  refine wpAnyH_take (i := 17) (v := ?_) (by (simp only [List.getElem?_toArray, List.getElem?_cons_succ, List.getElem?_cons_zero]; rfl)) (by kernel_rfl) (by kernel_rfl) (by kernel_rfl) (by intro _ _ _ h; exact h) (Or.inl ⟨by rfl, ?_⟩) (by assumption) ?_
                  rotate_left
                  · (intro w hSw; (try dsimp only at hSw); go_simp; try (with_reducible rfl))
                  simp only [Act.put, List.setIfInBounds_toArray, List.set_cons_zero, List.set_cons_succ]
                  refine wpAnyH_take (i := 18) (v := ?_) (by (simp only [List.getElem?_toArray, List.getElem?_cons_succ, List.getElem?_cons_zero]; rfl)) (by kernel_rfl) (by kernel_rfl) (by kernel_rfl) (by intro _ _ _ h; exact h) (Or.inl ⟨by rfl, ?_⟩) (by assumption) ?_
                  rotate_left
                  · (intro w hSw; (try dsimp only at hSw); go_simp; try (with_reducible rfl))
                  simp only [Act.put, List.setIfInBounds_toArray, List.set_cons_zero, List.set_cons_succ]
                  refine wpAnyH_take (i := 19) (v := undef) (by (simp only [List.getElem?_toArray, List.getElem?_cons_succ, List.getElem?_cons_zero]; rfl)) (by kernel_rfl) (by kernel_rfl) (by kernel_rfl) (by intro _ _ _ h; exact h) (Or.inr ⟨by rfl, rfl⟩) (by assumption) ?_
                  simp only [Act.put, List.setIfInBounds_toArray, List.set_cons_zero, List.set_cons_succ]
                  refine wpAnyH_take (i := 20) (v := undef) (by (simp only [List.getElem?_toArray, List.getElem?_cons_succ, List.getElem?_cons_zero]; rfl)) (by kernel_rfl) (by kernel_rfl) (by kernel_rfl) (by intro _ _ _ h; exact h) (Or.inr ⟨by rfl, rfl⟩) (by assumption) ?_
                  simp only [Act.put, List.setIfInBounds_toArray, List.set_cons_zero, List.set_cons_succ]
                  refine wpAnyH_take (i := 21) (v := undef) (by (simp only [List.getElem?_toArray, List.getElem?_cons_succ, List.getElem?_cons_zero]; rfl)) (by kernel_rfl) (by kernel_rfl) (by kernel_rfl) (by intro _ _ _ h; exact h) (Or.inr ⟨by rfl, rfl⟩) (by assumption) ?_
                  simp only [Act.put, List.setIfInBounds_toArray, List.set_cons_zero, List.set_cons_succ]
                  refine wpAnyH_take (i := 22) (v := undef) (by (simp only [List.getElem?_toArray, List.getElem?_cons_succ, List.getElem?_cons_zero]; rfl)) (by kernel_rfl) (by kernel_rfl) (by kernel_rfl) (by intro _ _ _ h; exact h) (Or.inr ⟨by rfl, rfl⟩) (by assumption) ?_
                  simp only [Act.put, List.setIfInBounds_toArray, List.set_cons_zero, List.set_cons_succ]
                  refine wpAnyH_take (i := 23) (v := ?_) (by (simp only [List.getElem?_toArray, List.getElem?_cons_succ, List.getElem?_cons_zero]; rfl)) (by kernel_rfl) (by kernel_rfl) (by kernel_rfl) (by intro _ _ _ h; exact h) (Or.inl ⟨by rfl, ?_⟩) (by assumption) ?_
                  rotate_left
                  · (intro w hSw; (try dsimp only at hSw); go_simp; try (with_reducible rfl))
                  simp only [Act.put, List.setIfInBounds_toArray, List.set_cons_zero, List.set_cons_succ]
                  refine wpAnyH_done (by kernel_rfl) ?_ _
                  go_wp2_with fail
                  go_meet
                  exact ⟨hHeld, true, rfl, by simp⟩
                · have h3I : decide ((500 : Int) < ((str n).size : Int)) = false := decide_eq_false (by rw [HNZ.out]; omega)
                  have H3 := Lib.hid h3
                  clear h3
                  have h4b : ∃ b, decide ((500 : Int) < ((str v).size : Int)) = b := ⟨_, rfl⟩
                  obtain ⟨b, h4I⟩ := h4b
                  have H4 := Lib.hid h4I
                  clear hnz hvz
                  refine wp_region_held_drew (S := (fun w1 => Below wb.heap.size wb w1)) (by kernel_rfl) (by (try dsimp only); exact (Below.refl _ _).drew) (fun hHeld => ?_)
                  generalize wb.drew = wd at hHeld ⊢
                  refine wpAnyH_take (i := 0) (v := ?_) (by (simp only [List.getElem?_toArray, List.getElem?_cons_succ, List.getElem?_cons_zero]; rfl)) (by kernel_rfl) (by kernel_rfl) (by kernel_rfl) (by intro _ _ _ h; exact h) (Or.inl ⟨by rfl, ?_⟩) (by assumption) ?_
                  rotate_left
                  · (intro w hSw; (try dsimp only at hSw); go_simp; try (with_reducible rfl))
                  simp only [Act.put, List.setIfInBounds_toArray, List.set_cons_zero, List.set_cons_succ]
                  refine wpAnyH_take (i := 1) (v := ?_) (by (simp only [List.getElem?_toArray, List.getElem?_cons_succ, List.getElem?_cons_zero]; rfl)) (by kernel_rfl) (by kernel_rfl) (by kernel_rfl) (by intro _ _ _ h; exact h) (Or.inl ⟨by rfl, ?_⟩) (by assumption) ?_
                  rotate_left
                  · (intro w hSw; have q1 := C0.out w hSw; go_simp; try (with_reducible rfl))
                  simp only [Act.put, List.setIfInBounds_toArray, List.set_cons_zero, List.set_cons_succ]
                  refine wpAnyH_take (i := 3) (v := ?_) (by (simp only [List.getElem?_toArray, List.getElem?_cons_succ, List.getElem?_cons_zero]; rfl)) (by kernel_rfl) (by kernel_rfl) (by kernel_rfl) (by intro _ _ _ h; exact h) (Or.inl ⟨by rfl, ?_⟩) (by assumption) ?_
                  rotate_left
                  · (intro w hSw; (try dsimp only at hSw); go_simp; try (with_reducible rfl))
                  simp only [Act.put, List.setIfInBounds_toArray, List.set_cons_zero, List.set_cons_succ]
                  refine wpAnyH_take (i := 4) (v := ?_) (by (simp only [List.getElem?_toArray, List.getElem?_cons_succ, List.getElem?_cons_zero]; rfl)) (by kernel_rfl) (by kernel_rfl) (by kernel_rfl) (by intro _ _ _ h; exact h) (Or.inl ⟨by rfl, ?_⟩) (by assumption) ?_
                  rotate_left
                  · (intro w hSw; have q1 := C0.out w hSw; go_simp; try (with_reducible rfl))
                  simp only [Act.put, List.setIfInBounds_toArray, List.set_cons_zero, List.set_cons_succ]
                  refine wpAnyH_take (i := 5) (v := ?_) (by (simp only [List.getElem?_toArray, List.getElem?_cons_succ, List.getElem?_cons_zero]; rfl)) (by kernel_rfl) (by kernel_rfl) (by kernel_rfl) (by intro _ _ _ h; exact h) (Or.inl ⟨by rfl, ?_⟩) (by assumption) ?_
                  rotate_left
                  · (intro w hSw; (try dsimp only at hSw); go_simp; try (with_reducible rfl))
                  simp only [Act.put, List.setIfInBounds_toArray, List.set_cons_zero, List.set_cons_succ]
                  refine wpAnyH_ready (rs := [2]) (by kernel_rfl) (by simp) ?_
                  refine AllReadyH.cons (by (simp only [List.getElem?_toArray, List.getElem?_cons_succ, List.getElem?_cons_zero]; rfl)) (fun K hK => ?_) AllReadyH.nil
                  go_simp
                  go_at_call 20; refine (HNA.out _).mono ?_; rintro e w6 ⟨m, rfl, hm6, hw6⟩; obtain rfl := name_one hm6 (nameL_is n)
                  refine hK.out _ _ (by (try dsimp only); rw [hw6]; exact hHeld) (fun hHeld => ?_)
                  clear hK K
                  try simp only [Act.put, List.setIfInBounds_toArray, List.set_cons_zero, List.set_cons_succ]
                  clear hw6 hm6
                  refine wpAnyH_take (i := 6) (v := ?_) (by (simp only [List.getElem?_toArray, List.getElem?_cons_succ, List.getElem?_cons_zero]; rfl)) (by kernel_rfl) (by kernel_rfl) (by kernel_rfl) (by intro _ _ _ h; exact h) (Or.inl ⟨by rfl, ?_⟩) (by assumption) ?_
                  rotate_left
                  · (intro w hSw; (try dsimp only at hSw); go_simp; try (with_reducible rfl))
                  simp only [Act.put, List.setIfInBounds_toArray, List.set_cons_zero, List.set_cons_succ]
                  refine wpAnyH_take (i := 7) (v := ?_) (by (simp only [List.getElem?_toArray, List.getElem?_cons_succ, List.getElem?_cons_zero]; rfl)) (by kernel_rfl) (by kernel_rfl) (by kernel_rfl) (by intro _ _ _ h; exact h) (Or.inl ⟨by rfl, ?_⟩) (by assumption) ?_
                  rotate_left
                  · (intro w hSw; (try dsimp only at hSw); go_simp; try (with_reducible rfl))
                  simp only [Act.put, List.setIfInBounds_toArray, List.set_cons_zero, List.set_cons_succ]
                  refine wpAnyH_take (i := 8) (v := ?_) (by (simp only [List.getElem?_toArray, List.getElem?_cons_succ, List.getElem?_cons_zero]; rfl)) (by kernel_rfl) (by kernel_rfl) (by kernel_rfl) (by intro _ _ _ h; exact h) (Or.inl ⟨by rfl, ?_⟩) (by assumption) ?_
                  rotate_left
                  · (intro w hSw; (try dsimp only at hSw); go_simp; try (with_reducible rfl))
                  simp only [Act.put, List.setIfInBounds_toArray, List.set_cons_zero, List.set_cons_succ]
                  refine wpAnyH_take (i := 9) (v := ?_) (by (simp only [List.getElem?_toArray, List.getElem?_cons_succ, List.getElem?_cons_zero]; rfl)) (by kernel_rfl) (by kernel_rfl) (by kernel_rfl) (by intro _ _ _ h; exact h) (Or.inl ⟨by rfl, ?_⟩) (by assumption) ?_
                  rotate_left
                  · (intro w hSw; have q1 := C0.out w hSw; go_simp; try (with_reducible rfl))
                  simp only [Act.put, List.setIfInBounds_toArray, List.set_cons_zero, List.set_cons_succ]
                  refine wpAnyH_take (i := 10) (v := ?_) (by (simp only [List.getElem?_toArray, List.getElem?_cons_succ, List.getElem?_cons_zero]; rfl)) (by kernel_rfl) (by kernel_rfl) (by kernel_rfl) (by intro _ _ _ h; exact h) (Or.inl ⟨by rfl, ?_⟩) (by assumption) ?_
                  rotate_left
                  · (intro w hSw; (try dsimp only at hSw); go_simp; try (with_reducible rfl))
                  simp only [Act.put, List.setIfInBounds_toArray, List.set_cons_zero, List.set_cons_succ]
                  refine wpAnyH_take (i := 11) (v := ?_) (by (simp only [List.getElem?_toArray, List.getElem?_cons_succ, List.getElem?_cons_zero]; rfl)) (by kernel_rfl) (by kernel_rfl) (by kernel_rfl) (by intro _ _ _ h; exact h) (Or.inl ⟨by rfl, ?_⟩) (by assumption) ?_
                  rotate_left
                  · (intro w hSw; (try dsimp only at hSw); go_simp; try (with_reducible rfl))
                  simp only [Act.put, List.setIfInBounds_toArray, List.set_cons_zero, List.set_cons_succ]
                  refine wpAnyH_take (i := 12) (v := ?_) (by (simp only [List.getElem?_toArray, List.getElem?_cons_succ, List.getElem?_cons_zero]; rfl)) (by kernel_rfl) (by kernel_rfl) (by kernel_rfl) (by intro _ _ _ h; exact h) (Or.inl ⟨by rfl, ?_⟩) (by assumption) ?_
                  rotate_left
                  · (intro w hSw; (try dsimp only at hSw); go_simp; try (with_reducible rfl))
                  simp only [Act.put, List.setIfInBounds_toArray, List.set_cons_zero, List.set_cons_succ]
                  refine wpAnyH_take (i := 13) (v := ?_) (by (simp only [List.getElem?_toArray, List.getElem?_cons_succ, List.getElem?_cons_zero]; rfl)) (by kernel_rfl) (by kernel_rfl) (by kernel_rfl) (by intro _ _ _ h; exact h) (Or.inl ⟨by rfl, ?_⟩) (by assumption) ?_
                  rotate_left
                  · (intro w hSw; (try dsimp only at hSw); go_simp; try (with_reducible rfl))
                  simp only [Act.put, List.setIfInBounds_toArray, List.set_cons_zero, List.set_cons_succ]
                  refine wpAnyH_take (i := 14) (v := ?_) (by (simp only [List.getElem?_toArray, List.getElem?_cons_succ, List.getElem?_cons_zero]; rfl)) (by kernel_rfl) (by kernel_rfl) (by kernel_rfl) (by intro _ _ _ h; exact h) (Or.inl ⟨by rfl, ?_⟩) (by assumption) ?_
                  rotate_left
                  · (intro w hSw; have q1 := C0.out w hSw; go_simp; try (with_reducible rfl))
                  simp only [Act.put, List.setIfInBounds_toArray, List.set_cons_zero, List.set_cons_succ]
                  refine wpAnyH_take (i := 15) (v := ?_) (by (simp only [List.getElem?_toArray, List.getElem?_cons_succ, List.getElem?_cons_zero]; rfl)) (by kernel_rfl) (by kernel_rfl) (by kernel_rfl) (by intro _ _ _ h; exact h) (Or.inl ⟨by rfl, ?_⟩) (by assumption) ?_
                  rotate_left
                  · (intro w hSw; (try dsimp only at hSw); go_simp; try (with_reducible rfl))
                  simp only [Act.put, List.setIfInBounds_toArray, List.set_cons_zero, List.set_cons_succ]
                  refine wpAnyH_take (i := 16) (v := ?_) (by (simp only [List.getElem?_toArray, List.getElem?_cons_succ, List.getElem?_cons_zero]; rfl)) (by kernel_rfl) (by kernel_rfl) (by kernel_rfl) (by intro _ _ _ h; exact h) (Or.inl ⟨by rfl, ?_⟩) (by assumption) ?_
                  rotate_left
                  · (intro w hSw; (try dsimp only at hSw); go_simp; try (with_reducible rfl))
                  simp only [Act.put, List.setIfInBounds_toArray, List.set_cons_zero, List.set_cons_succ]
                  refine wpAnyH_take (i := 17) (v := ?_) (by (simp only [List.getElem?_toArray, List.getElem?_cons_succ, List.getElem?_cons_zero]; rfl)) (by kernel_rfl) (by kernel_rfl) (by kernel_rfl) (by intro _ _ _ h; exact h) (Or.inl ⟨by rfl, ?_⟩) (by assumption) ?_
                  rotate_left
                  · (intro w hSw; (try dsimp only at hSw); go_simp; try (with_reducible rfl))
                  simp only [Act.put, List.setIfInBounds_toArray, List.set_cons_zero, List.set_cons_succ]
                  refine wpAnyH_take (i := 18) (v := ?_) (by (simp only [List.getElem?_toArray, List.getElem?_cons_succ, List.getElem?_cons_zero]; rfl)) (by kernel_rfl) (by kernel_rfl) (by kernel_rfl) (by intro _ _ _ h; exact h) (Or.inl ⟨by rfl, ?_⟩) (by assumption) ?_
                  rotate_left
                  · (intro w hSw; (try dsimp only at hSw); go_simp; try (with_reducible rfl))
                  simp only [Act.put, List.setIfInBounds_toArray, List.set_cons_zero, List.set_cons_succ]
                  refine wpAnyH_take (i := 19) (v := ?_) (by (simp only [List.getElem?_toArray, List.getElem?_cons_succ, List.getElem?_cons_zero]; rfl)) (by kernel_rfl) (by kernel_rfl) (by kernel_rfl) (by intro _ _ _ h; exact h) (Or.inl ⟨by rfl, ?_⟩) (by assumption) ?_
                  rotate_left
                  · (intro w hSw; (try dsimp only at hSw); go_simp; try (with_reducible rfl))
                  simp only [Act.put, List.setIfInBounds_toArray, List.set_cons_zero, List.set_cons_succ]
                  refine wpAnyH_take (i := 20) (v := ?_) (by (simp only [List.getElem?_toArray, List.getElem?_cons_succ, List.getElem?_cons_zero]; rfl)) (by kernel_rfl) (by kernel_rfl) (by kernel_rfl) (by intro _ _ _ h; exact h) (Or.inl ⟨by rfl, ?_⟩) (by assumption) ?_
                  rotate_left
                  · (intro w hSw; have q1 := C1.out w hSw; go_simp; try (with_reducible rfl))
                  simp only [Act.put, List.setIfInBounds_toArray, List.set_cons_zero, List.set_cons_succ]
                  refine wpAnyH_take (i := 21) (v := ?_) (by (simp only [List.getElem?_toArray, List.getElem?_cons_succ, List.getElem?_cons_zero]; rfl)) (by kernel_rfl) (by kernel_rfl) (by kernel_rfl) (by intro _ _ _ h; exact h) (Or.inl ⟨by rfl, ?_⟩) (by assumption) ?_
                  rotate_left
                  · (intro w hSw; (try dsimp only at hSw); go_simp; try (with_reducible rfl))
                  simp only [Act.put, List.setIfInBounds_toArray, List.set_cons_zero, List.set_cons_succ]
                  refine wpAnyH_take (i := 22) (v := ?_) (by (simp only [List.getElem?_toArray, List.getElem?_cons_succ, List.getElem?_cons_zero]; rfl)) (by kernel_rfl) (by kernel_rfl) (by kernel_rfl) (by intro _ _ _ h; exact h) (Or.inl ⟨by rfl, ?_⟩) (by assumption) ?_
                  rotate_left
                  · (intro w hSw; (try dsimp only at hSw); go_simp; try (with_reducible rfl))
                  simp only [Act.put, List.setIfInBounds_toArray, List.set_cons_zero, List.set_cons_succ]
                  refine wpAnyH_take (i := 23) (v := ?_) (by (simp only [List.getElem?_toArray, List.getElem?_cons_succ, List.getElem?_cons_zero]; rfl)) (by kernel_rfl) (by kernel_rfl) (by kernel_rfl) (by intro _ _ _ h; exact h) (Or.inl ⟨by rfl, ?_⟩) (by assumption) ?_
                  rotate_left
                  · (intro w hSw; (try dsimp only at hSw); go_simp; try (with_reducible rfl))
                  simp only [Act.put, List.setIfInBounds_toArray, List.set_cons_zero, List.set_cons_succ]
                  refine wpAnyH_done (by kernel_rfl) ?_ _
                  go_wp2_with fail
                  go_meet
                  refine ⟨hHeld, b, rfl, fun hbf => ⟨HOKN.out, by have := H3.out; omega, ?_⟩⟩
                  have h5 := H4.out
                  rw [hbf] at h5
                  have h6 := of_decide_eq_false h5
                  have h7 := HVZ.out
                  omega
            · have hq1 : ((nameL n : Int) != ((str n).size : Int)) = true := by rw [bne_iff_ne, hnz]; omega
              clear h1 hnz hvz
              refine wp_region_held_drew (S := (fun w1 => Below wb.heap.size wb w1)) (by kernel_rfl) (by (try dsimp only); exact (Below.refl _ _).drew) (fun hHeld => ?_)
              generalize wb.drew = wd at hHeld ⊢
              refine wpAnyH_take (i := 0) (v := ?_) (by (simp only [List.getElem?_toArray, List.getElem?_cons_succ, List.getElem?_cons_zero]; rfl)) (by kernel_rfl) (by kernel_rfl) (by kernel_rfl) (by intro _ _ _ h; exact h) (Or.inl ⟨by rfl, ?_⟩) (by assumption) ?_
              rotate_left
              · (intro w hSw; (try dsimp only at hSw); go_simp; try (with_reducible rfl))
              simp only [Act.put, List.setIfInBounds_toArray, List.set_cons_zero, List.set_cons_succ]
              refine wpAnyH_take (i := 1) (v := ?_) (by (simp only [List.getElem?_toArray, List.getElem?_cons_succ, List.getElem?_cons_zero]; rfl)) (by kernel_rfl) (by kernel_rfl) (by kernel_rfl) (by intro _ _ _ h; exact h) (Or.inl ⟨by rfl, ?_⟩) (by assumption) ?_
              rotate_left
              · (intro w hSw; have q1 := C0.out w hSw; go_simp; try (with_reducible rfl))
              simp only [Act.put, List.setIfInBounds_toArray, List.set_cons_zero, List.set_cons_succ]
              refine wpAnyH_take (i := 3) (v := ?_) (by (simp only [List.getElem?_toArray, List.getElem?_cons_succ, List.getElem?_cons_zero]; rfl)) (by kernel_rfl) (by kernel_rfl) (by kernel_rfl) (by intro _ _ _ h; exact h) (Or.inl ⟨by rfl, ?_⟩) (by assumption) ?_
              rotate_left
              · (intro w hSw; (try dsimp only at hSw); go_simp; try (with_reducible rfl))
              simp only [Act.put, List.setIfInBounds_toArray, List.set_cons_zero, List.set_cons_succ]
              refine wpAnyH_take (i := 4) (v := ?_) (by (simp only [List.getElem?_toArray, List.getElem?_cons_succ, List.getElem?_cons_zero]; rfl)) (by kernel_rfl) (by kernel_rfl) (by kernel_rfl) (by intro _ _ _ h; exact h) (Or.inl ⟨by rfl, ?_⟩) (by assumption) ?_
              rotate_left
              · (intro w hSw; have q1 := C0.out w hSw; go_simp; try (with_reducible rfl))
              simp only [Act.put, List.setIfInBounds_toArray, List.set_cons_zero, List.set_cons_succ]
              refine wpAnyH_take (i := 5) (v := ?_) (by (simp only [List.getElem?_toArray, List.getElem?_cons_succ, List.getElem?_cons_zero]; rfl)) (by kernel_rfl) (by kernel_rfl) (by kernel_rfl) (by intro _ _ _ h; exact h) (Or.inl ⟨by rfl, ?_⟩) (by assumption) ?_
              rotate_left
              · (intro w hSw; (try dsimp only at hSw); go_simp; try (with_reducible rfl))
              simp only [Act.put, List.setIfInBounds_toArray, List.set_cons_zero, List.set_cons_succ]
              refine wpAnyH_ready (rs := [2]) (by kernel_rfl) (by simp) ?_
              refine AllReadyH.cons (by (simp only [List.getElem?_toArray, List.getElem?_cons_succ, List.getElem?_cons_zero]; rfl)) (fun K hK => ?_) AllReadyH.nil
              go_simp
              go_at_call 20; refine (HNA.out _).mono ?_; rintro e w6 ⟨m, rfl, hm6, hw6⟩; obtain rfl := name_one hm6 (nameL_is n)
              refine hK.out _ _ (by (try dsimp only); rw [hw6]; exact hHeld) (fun hHeld => ?_)
              clear hK K
              try simp only [Act.put, List.setIfInBounds_toArray, List.set_cons_zero, List.set_cons_succ]
              clear hw6 hm6
              refine wpAnyH_take (i := 6) (v := ?_) (by (simp only [List.getElem?_toArray, List.getElem?_cons_succ, List.getElem?_cons_zero]; rfl)) (by kernel_rfl) (by kernel_rfl) (by kernel_rfl) (by intro _ _ _ h; exact h) (Or.inl ⟨by rfl, ?_⟩) (by assumption) ?_
              rotate_left
              · (intro w hSw; (try dsimp only at hSw); go_simp; try (with_reducible rfl))
              simp only [Act.put, List.setIfInBounds_toArray, List.set_cons_zero, List.set_cons_succ]
              refine wpAnyH_take (i := 7) (v := ?_) (by (simp only [List.getElem?_toArray, List.getElem?_cons_succ, List.getElem?_cons_zero]; rfl)) (by kernel_rfl) (by kernel_rfl) (by kernel_rfl) (by intro _ _ _ h; exact h) (Or.inl ⟨by rfl, ?_⟩) (by assumption) ?_
              rotate_left
              · (intro w hSw; (try dsimp only at hSw); go_simp; try (with_reducible rfl))
              simp only [Act.put, List.setIfInBounds_toArray, List.set_cons_zero, List.set_cons_succ]
              refine wpAnyH_take (i := 8) (v := undef) (by (simp only [List.getElem?_toArray, List.getElem?_cons_succ, List.getElem?_cons_zero]; rfl)) (by kernel_rfl) (by kernel_rfl) (by kernel_rfl) (by intro _ _ _ h; exact h) (Or.inr ⟨by rfl, rfl⟩) (by assumption) ?_
              simp only [Act.put, List.setIfInBounds_toArray, List.set_cons_zero, List.set_cons_succ]
              refine wpAnyH_take (i := 9) (v := undef) (by (simp only [List.getElem?_toArray, List.getElem?_cons_succ, List.getElem?_cons_zero]; rfl)) (by kernel_rfl) (by kernel_rfl) (by kernel_rfl) (by intro _ _ _ h; exact h) (Or.inr ⟨by rfl, rfl⟩) (by assumption) ?_
              simp only [Act.put, List.setIfInBounds_toArray, List.set_cons_zero, List.set_cons_succ]
              refine wpAnyH_take (i := 10) (v := undef) (by (simp only [List.getElem?_toArray, List.getElem?_cons_succ, List.getElem?_cons_zero]; rfl)) (by kernel_rfl) (by kernel_rfl) (by kernel_rfl) (by intro _ _ _ h; exact h) (Or.inr ⟨by rfl, rfl⟩) (by assumption) ?_
              simp only [Act.put, List.setIfInBounds_toArray, List.set_cons_zero, List.set_cons_succ]
              refine wpAnyH_take (i := 11) (v := ?_) (by (simp only [List.getElem?_toArray, List.getElem?_cons_succ, List.getElem?_cons_zero]; rfl)) (by kernel_rfl) (by kernel_rfl) (by kernel_rfl) (by intro _ _ _ h; exact h) (Or.inl ⟨by rfl, ?_⟩) (by assumption) ?_
              rotate_left
              · (intro w hSw; (try dsimp only at hSw); go_simp; try (with_reducible rfl))
              simp only [Act.put, List.setIfInBounds_toArray, List.set_cons_zero, List.set_cons_succ]
              refine wpAnyH_take (i := 12) (v := ?_) (by (simp only [List.getElem?_toArray, List.getElem?_cons_succ, List.getElem?_cons_zero]; rfl)) (by kernel_rfl) (by kernel_rfl) (by kernel_rfl) (by intro _ _ _ h; exact h) (Or.inl ⟨by rfl, ?_⟩) (by assumption) ?_
              rotate_left
              · (intro w hSw; (try dsimp only at hSw); go_simp; try (with_reducible rfl))
              simp only [Act.put, List.setIfInBounds_toArray, List.set_cons_zero, List.set_cons_succ]
              refine wpAnyH_take (i := 13) (v := undef) (by (simp only [List.getElem?_toArray, List.getElem?_cons_succ, List.getElem?_cons_zero]; rfl)) (by kernel_rfl) (by kernel_rfl) (by kernel_rfl) (by intro _ _ _ h; exact h) (Or.inr ⟨by rfl, rfl⟩) (by assumption) ?_
              simp only [Act.put, List.setIfInBounds_toArray, List.set_cons_zero, List.set_cons_succ]
              refine wpAnyH_take (i := 14) (v := undef) (by (simp only [List.getElem?_toArray, List.getElem?_cons_succ, List.getElem?_cons_zero]; rfl)) (by kernel_rfl) (by kernel_rfl) (by kernel_rfl) (by intro _ _ _ h; exact h) (Or.inr ⟨by rfl, rfl⟩) (by assumption) ?_
              simp only [Act.put, List.setIfInBounds_toArray, List.set_cons_zero, List.set_cons_succ]
              refine wpAnyH_take (i := 15) (v := undef) (by (simp only [List.getElem?_toArray, List.getElem?_cons_succ, List.getElem?_cons_zero]; rfl)) (by kernel_rfl) (by kernel_rfl) (by kernel_rfl) (by intro _ _ _ h; exact h) (Or.inr ⟨by rfl, rfl⟩) (by assumption) ?_
              simp only [Act.put, List.setIfInBounds_toArray, List.set_cons_zero, List.set_cons_succ]
              refine wpAnyH_take (i := 16) (v := undef) (by (simp only [List.getElem?_toArray, List.getElem?_cons_succ, List.getElem?_cons_zero]; rfl)) (by kernel_rfl) (by kernel_rfl) (by kernel_rfl) (by intro _ _ _ h; exact h) (Or.inr ⟨by rfl, rfl⟩) (by assumption) ?_
              simp only [Act.put, List.setIfInBounds_toArray, List.set_cons_zero, List.set_cons_succ]
              refine wpAnyH_take (i := 17) (v := ?_) (by (simp only [List.getElem?_toArray, List.getElem?_cons_succ, List.getElem?_cons_zero]; rfl)) (by kernel_rfl) (by kernel_rfl) (by kernel_rfl) (by intro _ _ _ h; exact h) (Or.inl ⟨by rfl, ?_⟩) (by assumption) ?_
              rotate_left
              · (intro w hSw; (try dsimp only at hSw); go_simp; try (with_reducible rfl))
              simp only [Act.put, List.setIfInBounds_toArray, List.set_cons_zero, List.set_cons_succ]
              refine wpAnyH_take (i := 18) (v := ?_) (by (simp only [List.getElem?_toArray, List.getElem?_cons_succ, List.getElem?_cons_zero]; rfl)) (by kernel_rfl) (by kernel_rfl) (by kernel_rfl) (by intro _ _ _ h; exact h) (Or.inl ⟨by rfl, ?_⟩) (by assumption) ?_
              rotate_left
              · (intro w hSw; (try dsimp only at hSw); go_simp; try (with_reducible rfl))
              simp only [Act.put, List.setIfInBounds_toArray, List.set_cons_zero, List.set_cons_succ]
              refine wpAnyH_take (i := 19) (v := undef) (by (simp only [List.getElem?_toArray, List.getElem?_cons_succ, List.getElem?_cons_zero]; rfl)) (by kernel_rfl) (by kernel_rfl) (by kernel_rfl) (by intro _ _ _ h; exact h) (Or.inr ⟨by rfl, rfl⟩) (by assumption) ?_
              simp only [Act.put, List.setIfInBounds_toArray, List.set_cons_zero, List.set_cons_succ]
              refine wpAnyH_take (i := 20) (v := undef) (by (simp only [List.getElem?_toArray, List.getElem?_cons_succ, List.getElem?_cons_zero]; rfl)) (by kernel_rfl) (by kernel_rfl) (by kernel_rfl) (by intro _ _ _ h; exact h) (Or.inr ⟨by rfl, rfl⟩) (by assumption) ?_
              simp only [Act.put, List.setIfInBounds_toArray, List.set_cons_zero, List.set_cons_succ]
              refine wpAnyH_take (i := 21) (v := undef) (by (simp only [List.getElem?_toArray, List.getElem?_cons_succ, List.getElem?_cons_zero]; rfl)) (by kernel_rfl) (by kernel_rfl) (by kernel_rfl) (by intro _ _ _ h; exact h) (Or.inr ⟨by rfl, rfl⟩) (by assumption) ?_
              simp only [Act.put, List.setIfInBounds_toArray, List.set_cons_zero, List.set_cons_succ]
              refine wpAnyH_take (i := 22) (v := undef) (by (simp only [List.getElem?_toArray, List.getElem?_cons_succ, List.getElem?_cons_zero]; rfl)) (by kernel_rfl) (by kernel_rfl) (by kernel_rfl) (by intro _ _ _ h; exact h) (Or.inr ⟨by rfl, rfl⟩) (by assumption) ?_
              simp only [Act.put, List.setIfInBounds_toArray, List.set_cons_zero, List.set_cons_succ]
              refine wpAnyH_take (i := 23) (v := ?_) (by (simp only [List.getElem?_toArray, List.getElem?_cons_succ, List.getElem?_cons_zero]; rfl)) (by kernel_rfl) (by kernel_rfl) (by kernel_rfl) (by intro _ _ _ h; exact h) (Or.inl ⟨by rfl, ?_⟩) (by assumption) ?_
              rotate_left
              · (intro w hSw; (try dsimp only at hSw); go_simp; try (with_reducible rfl))
              simp only [Act.put, List.setIfInBounds_toArray, List.set_cons_zero, List.set_cons_succ]
              refine wpAnyH_done (by kernel_rfl) ?_ _
              go_wp2_with fail
              go_meet
              exact ⟨hHeld, true, rfl, by simp⟩
          case rest =>
            obtain ⟨hbc, b, rfl, hb⟩ := hcut
            have HBC := Lib.hid (HBB.out.trans (hbc.mono HBB.out.size))
            have HROWC := Lib.hid ((hbc.block KB (Array.getElem?_eq_some_iff.1 HROW.out).1).trans HROW.out)
            clear hbc
            cases b with
            | true =>
              clear hb
              go_wp2_with fail
              refine (HLV.out _).mono ?_
              rintro e w2 ⟨rfl, hb2⟩
              have HB2 := Lib.hid (HBC.out.trans (hb2.mono HBC.out.size))
              clear hb2
              go_wp2
              go_ret
              exact ⟨rfl, HB2.out⟩
            | false =>
              obtain ⟨hN2, hl1, hl2⟩ := hb rfl
              have HN2 := Lib.hid hN2
              have HL1 := Lib.hid hl1
              have HL2 := Lib.hid hl2
              have y0 : wc.cell? ⟨KB, 0, none⟩ = some (.string (str n)) := by rw [cell_of_row wc KB 0 _ _ (0, 0) HROWC.out]; rfl
              have y1 : wc.cell? ⟨KB, 1, none⟩ = some (.string (str v)) := by rw [cell_of_row wc KB 1 _ _ (0, 0) HROWC.out]; rfl
              have hvI : ((str v).size : Int) ≤ 500 := by omega
              have hnI : ((str n).size : Int) ≤ 500 := by omega
              clear hb hN2 hl1 hl2 hnz hvz C0 C1 HNA
              go_wp2_with fail
              go_loop [77] (fun i => ∃ q : Nat, q ≤ (str v).size ∧ i = .int .i64 q ∧ ∀ c ∈ v.take q, tx c = true) (fun i => (str v).size - (intOf i).toNat)
              case atStart => exact ⟨0, by omega, rfl, by simp⟩
              case round =>
                obtain ⟨q, hq, rfl, ht⟩ := hrel
                have HT := Lib.hid ht
                clear ht
                by_cases hqlt : q < (str v).size
                · obtain ⟨c, hc⟩ : ∃ c, v[q]? = some c := ⟨_, List.getElem?_eq_getElem (by rw [← HVZ.out]; exact hqlt)⟩
                  have hix := fun w => bidx2 (str v) q c (by rw [toList_str]; exact hc) w
                  have HC := Lib.hid hc
                  have hqI : (q : Int) < ((str v).size : Int) := by omega
                  clear hc
                  cases hbt : tx c with
                  | false =>
                    have HIS := Lib.hid (fun w => is_at (c.toNat : Int) 16 false (by decide) (by decide) (by rw [(cls_all _).2.2.2.2]; exact hbt) w)
                    go_wp2_with (go_at_call 21; with_reducible refine (HIS.out _).mono ?_; rintro e w' ⟨rfl, rfl⟩)
                    refine (HLV.out _).mono ?_
                    rintro e w4 ⟨rfl, hb4⟩
                    have HB4 := Lib.hid (HBC.out.trans (hb4.mono HBC.out.size))
                    clear hb4
                    go_wp2
                    go_ret
                    exact ⟨rfl, HB4.out⟩
                  | true =>
                    have HIS := Lib.hid (fun w => is_at (c.toNat : Int) 16 true (by decide) (by decide) (by rw [(cls_all _).2.2.2.2]; exact hbt) w)
                    have HT2 := Lib.hid (show ∀ d ∈ v.take (q + 1), tx d = true from fun d hd => by
                      rw [take_snoc _ q c HC.out, List.mem_append] at hd
                      rcases hd with hd | hd
                      · exact HT.out d hd
                      · simp at hd; rw [hd]; exact hbt)
                    clear hbt
                    go_wp2_with (go_at_call 21; with_reducible refine (HIS.out _).mono ?_; rintro e w' ⟨rfl, rfl⟩)
                    refine ⟨⟨q + 1, by omega, by go_num, HT2.out⟩, by simp [intOf]; omega⟩
                · have HTX := Lib.hid (show ∀ c ∈ v, tx c = true from fun c hc => HT.out c (by rw [List.take_of_length_le (by have := HVZ.out; omega)]; exact hc))
                  have hle : ((str v).size : Int) ≤ (q : Int) := by omega
                  have hcap := HCAP.out
                  clear HT hq hqlt
                  have hkc : k ≤ vc0 := by omega
                  have hkcI : (k : Int) ≤ (vc0 : Int) := by omega
                  have hcI : (vc0 : Int) ≤ 9223372036854775807 := by omega
                  clear hcap
                  go_upto_region 16 with fail
                  go_wp2_with fail
                  go_loopw [92] (fun j wr2 => ∃ q : Nat, q ≤ k ∧ j = .int .i64 q ∧ (∀ a ∈ L.take q, a.1 ≠ n) ∧ Below wc.heap.size wc wr2) (fun j _ => k - (intOf j).toNat)
                  case atStart => exact ⟨0, by omega, rfl, by simp, Below.refl _ _⟩
                  case round =>
                    obtain ⟨q, hq, rfl, hno, hbw⟩ := hrel
                    have HNO := Lib.hid hno
                    have HBW2 := Lib.hid hbw
                    have HBX := Lib.hid (HBC.out.trans (hbw.mono HBC.out.size))
                    have HROWX := Lib.hid ((hbw.block KB (Array.getElem?_eq_some_iff.1 HROWC.out).1).trans HROWC.out)
                    clear hno hbw y0 y1
                    by_cases hqk : q < k
                    · obtain ⟨a, ha⟩ : ∃ a, L[q]? = some a := ⟨_, List.getElem?_eq_getElem (by omega)⟩
                      obtain ⟨b2, e2, d0, d1⟩ := RdSl.elem (HV.out.below HBX.out (Nat.le_refl _)) ha
                      obtain rfl : bb = b2 := Option.some.inj e2
                      clear e2
                      have HAA := Lib.hid ha
                      obtain ⟨wd, hwd⟩ : ∃ wd, wd = wr.alloc (.cells #[.string (str a.1), .string (str a.2)] 46) := ⟨_, rfl⟩
                      have hbd : Below wr.heap.size wr wd := by rw [hwd]; exact (Below.refl _ _).alloc (Nat.le_refl _) _
                      have hrow2 : wd.heap[wr.heap.size]? = some (.cells #[.string (str a.1), .string (str a.2)] 46 (0, 0)) := by rw [hwd]; exact heap_alloc_new wr _
                      have HBD2 := Lib.hid (HBX.out.trans (hbd.mono HBX.out.size))
                      have HBC2 := Lib.hid (HBW2.out.trans (hbd.mono HBW2.out.size))
                      have HROWD := Lib.hid ((hbd.block KB (Array.getElem?_eq_some_iff.1 HROWX.out).1).trans HROWX.out)
                      have HWD := Lib.hid hwd
                      have z0 : wd.cell? ⟨wr.heap.size, 0, none⟩ = some (.string (str a.1)) := by rw [cell_of_row wd _ 0 _ _ (0, 0) hrow2]; rfl
                      have y0 : wd.cell? ⟨KB, 0, none⟩ = some (.string (str n)) := by rw [cell_of_row wd KB 0 _ _ (0, 0) HROWD.out]; rfl
                      have hqI : (q : Int) < (k : Int) := by omega
                      clear hwd hbd hrow2 ha
                      go_upto_region 18 with fail
                      rw [← HWD.out]
                      clear d0 d1
                      by_cases he : a.1 = n
                      · have heq : ((str a.1).toList == (str n).toList) = true := by rw [he]; simp
                        clear he
                        go_wp2_with fail
                        refine (HLV.out _).mono ?_
                        rintro e w4 ⟨rfl, hb4⟩
                        have HB4 := Lib.hid (HBD2.out.trans (hb4.mono HBD2.out.size))
                        clear hb4
                        go_wp2
                        go_ret
                        exact ⟨rfl, HB4.out⟩
                      · have heq : ((str a.1).toList == (str n).toList) = false := by rw [beq_eq_false_iff_ne]; exact fun h => he (strEq.1 h)
                        have HNO2 := Lib.hid (show ∀ d ∈ L.take (q + 1), d.1 ≠ n from fun d hd => by
                          rw [take_snoc _ q a HAA.out, List.mem_append] at hd
                          rcases hd with hd | hd
                          · exact HNO.out d hd
                          · simp at hd; rw [hd]; exact he)
                        clear he
                        go_wp2
                        go_roundw
                        case rel => exact ⟨q + 1, by omega, by go_num, HNO2.out, HBC2.out⟩
                        case measure => simp [intOf]; omega
                    · have hqe : q = k := by omega
                      have HNOK := Lib.hid (show ∀ a ∈ L.take k, a.1 ≠ n by rw [← hqe]; exact HNO.out)
                      have hleI : (k : Int) ≤ (q : Int) := by omega
                      have y0 : wr.cell? ⟨KB, 0, none⟩ = some (.string (str n)) := by rw [cell_of_row wr KB 0 _ _ (0, 0) HROWX.out]; rfl
                      have y1 : wr.cell? ⟨KB, 1, none⟩ = some (.string (str v)) := by rw [cell_of_row wr KB 1 _ _ (0, 0) HROWX.out]; rfl
                      have HEL := Lib.hid (escS_len true v)
                      have HESC := Lib.hid (fun w => refEscape_any true (str v) (by omega) w)
                      clear hqe hqk hq
                      go_upto_region 21 with fail
                      go_wp2_with fail
                      refine (HESC.out _).mono ?_
                      rintro e w4 ⟨rfl, hw4⟩
                      obtain rfl : wr = w4 := hw4.symm
                      clear hw4
                      rw [toList_str]
                      obtain ⟨E, hE⟩ : ∃ E, E = escS true v := ⟨_, rfl⟩
                      rw [← hE]
                      have HE := Lib.hid hE
                      clear hE
                      go_upto_region 22 with fail
                      go_cut [111] from 106 to 131 (fun t wx => wx = wr ∧ ∃ b, t = .bool b)
                      case first =>
                        go_wp2_with fail
                        go_meet
                        exact ⟨rfl, _, rfl⟩
                      case rest =>
                        obtain ⟨hwc, b, rfl⟩ := hcut
                        obtain rfl : wr = wc := hwc.symm
                        clear hwc
                        have hesI : ((str E).size : Int) ≤ 3000 := by rw [size_str, HE.out]; have := HEL.out; have := HL2.out; omega
                        obtain ⟨T, hT⟩ : ∃ T, T = tagT nm bs := ⟨_, rfl⟩
                        rw [← hT]
                        have htI : ((str T).size : Int) ≤ 30000 := by rw [size_str, hT]; have := HTL.out; have := HL8.out; omega
                        have HT := Lib.hid hT
                        clear hT
                        cases b with
                        | true =>
                          have HAP := Lib.hid (fun w => apos_any E (by rw [HE.out]; have := HEL.out; have := HL2.out; omega) w)
                          have hapI : ((str (aposL E)).size : Int) ≤ 18000 := by rw [size_str]; have h1 := apos_len E; rw [HE.out] at h1 ⊢; have := HEL.out; have := HL2.out; omega
                          obtain ⟨A, hA⟩ : ∃ A, A = aposL E := ⟨_, rfl⟩
                          rw [← hA] at HAP hapI
                          have HA := Lib.hid hA
                          clear hA
                          go_upto_region 23 with fail
                          have C0 := Lib.hid (fun w1 (hb : Below wr.heap.size wr w1) => (hb.cell (World.block_lt_of_cell? wr _ y0)).trans y0)
                          clear y0 y1
                          refine wp_region_held_drew (S := (fun w1 => Below wr.heap.size wr w1)) (by kernel_rfl) (by (try dsimp only); exact (Below.refl _ _).drew) (fun hHeld => ?_)
                          generalize wr.drew = wd at hHeld ⊢
                          refine wpAnyH_take (i := 0) (v := ?_) (by (simp only [List.getElem?_toArray, List.getElem?_cons_succ, List.getElem?_cons_zero]; rfl)) (by kernel_rfl) (by kernel_rfl) (by kernel_rfl) (by intro _ _ _ h; exact h) (Or.inl ⟨by rfl, ?_⟩) (by assumption) ?_
                          rotate_left
                          · (intro w hSw; (try dsimp only at hSw); go_simp; try (with_reducible rfl))
                          simp only [Act.put, List.setIfInBounds_toArray, List.set_cons_zero, List.set_cons_succ]
                          refine wpAnyH_take (i := 1) (v := ?_) (by (simp only [List.getElem?_toArray, List.getElem?_cons_succ, List.getElem?_cons_zero]; rfl)) (by kernel_rfl) (by kernel_rfl) (by kernel_rfl) (by intro _ _ _ h; exact h) (Or.inl ⟨by rfl, ?_⟩) (by assumption) ?_
                          rotate_left
                          · (intro w hSw; (try dsimp only at hSw); go_simp; try (with_reducible rfl))
                          simp only [Act.put, List.setIfInBounds_toArray, List.set_cons_zero, List.set_cons_succ]
                          refine wpAnyH_take (i := 2) (v := ?_) (by (simp only [List.getElem?_toArray, List.getElem?_cons_succ, List.getElem?_cons_zero]; rfl)) (by kernel_rfl) (by kernel_rfl) (by kernel_rfl) (by intro _ _ _ h; exact h) (Or.inl ⟨by rfl, ?_⟩) (by assumption) ?_
                          rotate_left
                          · (intro w hSw; have q1 := C0.out w hSw; go_simp; try (with_reducible rfl))
                          simp only [Act.put, List.setIfInBounds_toArray, List.set_cons_zero, List.set_cons_succ]
                          refine wpAnyH_take (i := 3) (v := ?_) (by (simp only [List.getElem?_toArray, List.getElem?_cons_succ, List.getElem?_cons_zero]; rfl)) (by kernel_rfl) (by kernel_rfl) (by kernel_rfl) (by intro _ _ _ h; exact h) (Or.inl ⟨by rfl, ?_⟩) (by assumption) ?_
                          rotate_left
                          · (intro w hSw; (try dsimp only at hSw); go_simp; first | (with_reducible rfl) | (rw [if_neg (by omega)]; try (with_reducible rfl)))
                          simp only [Act.put, List.setIfInBounds_toArray, List.set_cons_zero, List.set_cons_succ]
                          refine wpAnyH_take (i := 4) (v := ?_) (by (simp only [List.getElem?_toArray, List.getElem?_cons_succ, List.getElem?_cons_zero]; rfl)) (by kernel_rfl) (by kernel_rfl) (by kernel_rfl) (by intro _ _ _ h; exact h) (Or.inl ⟨by rfl, ?_⟩) (by assumption) ?_
                          rotate_left
                          · (intro w hSw; (try dsimp only at hSw); go_simp; first | (with_reducible rfl) | (rw [if_neg (by omega)]; try (with_reducible rfl)))
                          simp only [Act.put, List.setIfInBounds_toArray, List.set_cons_zero, List.set_cons_succ]
                          refine wpAnyH_take (i := 5) (v := ?_) (by (simp only [List.getElem?_toArray, List.getElem?_cons_succ, List.getElem?_cons_zero]; rfl)) (by kernel_rfl) (by kernel_rfl) (by kernel_rfl) (by intro _ _ _ h; exact h) (Or.inl ⟨by rfl, ?_⟩) (by assumption) ?_
                          rotate_left
                          · (intro w hSw; (try dsimp only at hSw); go_simp; try (with_reducible rfl))
                          simp only [Act.put, List.setIfInBounds_toArray, List.set_cons_zero, List.set_cons_succ]
                          refine wpAnyH_ready (rs := [6]) (by kernel_rfl) (by simp) ?_
                          refine AllReadyH.cons (by (simp only [List.getElem?_toArray, List.getElem?_cons_succ, List.getElem?_cons_zero]; rfl)) (fun K hK => ?_) AllReadyH.nil
                          go_simp
                          go_at_call 23; refine (HAP.out _).mono ?_; rintro e w6 ⟨rfl, hw6⟩
                          refine hK.out _ _ (by (try dsimp only); rw [hw6]; exact hHeld) (fun hHeld => ?_)
                          clear hK K
                          try simp only [Act.put, List.setIfInBounds_toArray, List.set_cons_zero, List.set_cons_succ]
                          clear hw6
                          refine wpAnyH_take (i := 7) (v := ?_) (by (simp only [List.getElem?_toArray, List.getElem?_cons_succ, List.getElem?_cons_zero]; rfl)) (by kernel_rfl) (by kernel_rfl) (by kernel_rfl) (by intro _ _ _ h; exact h) (Or.inl ⟨by rfl, ?_⟩) (by assumption) ?_
                          rotate_left
                          · (intro w hSw; (try dsimp only at hSw); go_simp; first | (with_reducible rfl) | (rw [if_neg (by omega)]; try (with_reducible rfl)))
                          simp only [Act.put, List.setIfInBounds_toArray, List.set_cons_zero, List.set_cons_succ]
                          refine wpAnyH_take (i := 8) (v := ?_) (by (simp only [List.getElem?_toArray, List.getElem?_cons_succ, List.getElem?_cons_zero]; rfl)) (by kernel_rfl) (by kernel_rfl) (by kernel_rfl) (by intro _ _ _ h; exact h) (Or.inl ⟨by rfl, ?_⟩) (by assumption) ?_
                          rotate_left
                          · (intro w hSw; (try dsimp only at hSw); go_simp; first | (with_reducible rfl) | (rw [if_neg (by omega)]; try (with_reducible rfl)))
                          simp only [Act.put, List.setIfInBounds_toArray, List.set_cons_zero, List.set_cons_succ]
                          refine wpAnyH_take (i := 9) (v := ?_) (by (simp only [List.getElem?_toArray, List.getElem?_cons_succ, List.getElem?_cons_zero]; rfl)) (by kernel_rfl) (by kernel_rfl) (by kernel_rfl) (by intro _ _ _ h; exact h) (Or.inl ⟨by rfl, ?_⟩) (by assumption) ?_
                          rotate_left
                          · (intro w hSw; (try dsimp only at hSw); go_simp; first | (with_reducible rfl) | (rw [if_neg (by omega)]; try (with_reducible rfl)))
                          simp only [Act.put, List.setIfInBounds_toArray, List.set_cons_zero, List.set_cons_succ]
                          refine wpAnyH_take (i := 10) (v := ?_) (by (simp only [List.getElem?_toArray, List.getElem?_cons_succ, List.getElem?_cons_zero]; rfl)) (by kernel_rfl) (by kernel_rfl) (by kernel_rfl) (by intro _ _ _ h; exact h) (Or.inl ⟨by rfl, ?_⟩) (by assumption) ?_
                          rotate_left
                          · (intro w hSw; (try dsimp only at hSw); go_simp; try (with_reducible rfl))
                          simp only [Act.put, List.setIfInBounds_toArray, List.set_cons_zero, List.set_cons_succ]
                          refine wpAnyH_done (by kernel_rfl) ?_ _
                          have HB6 := Lib.hid (HBX.out.trans (hHeld.mono HBX.out.size))
                          clear hHeld hesI hapI htI
                          go_wp2
                          go_roundw
                          case rel =>
                            obtain ⟨r1, r2, r3, r4⟩ := tag_round true HX.out HMAP.out HOK.out HND.out HTL.out HN2.out HTX.out HNOK.out HL1.out HL2.out
                            exact ⟨k + 1, bs ++ [(true, (n, v))], by omega, by go_num, by rw [cat_true, HT.out, HA.out, HE.out, tag_snoc, apos_esc]; rfl, r1, r2, r3, r4, HB6.out⟩
                          case measure => simp [intOf]; omega
                        | false =>
                          go_upto_region 25 with fail
                          clear hesI htI y0 y1
                          go_wp2
                          go_roundw
                          case rel =>
                            obtain ⟨r1, r2, r3, r4⟩ := tag_round false HX.out HMAP.out HOK.out HND.out HTL.out HN2.out HTX.out HNOK.out HL1.out HL2.out
                            exact ⟨k + 1, bs ++ [(false, (n, v))], by omega, by go_num, by rw [cat_false, HT.out, HE.out, tag_snoc]; rfl, r1, r2, r3, r4, HBX.out⟩
                          case measure => simp [intOf]; omega
        · have hke : k = L.length := by omega
          have hmL : bs.map (·.2) = L := by rw [HMAP.out, hke, List.take_length]
          have hleI : (L.length : Int) ≤ (k : Int) := by omega
          have HTL2 := Lib.hid (show (tagT nm bs).length ≤ 30000 by have := HTL.out; have := HL8.out; omega)
          have hall := all_tag HN.out HOK.out HND.out (by have := HTL2.out; omega)
          rw [hmL] at hall
          obtain ⟨T, hT⟩ : ∃ T, T = tagT nm bs := ⟨_, rfl⟩
          rw [← hT] at hall HTL2 ⊢
          have HA1 := Lib.hid (fun w => all_ok hall.1 (by rw [List.length_append]; have := HTL2.out; simp only [List.length_cons, List.length_nil]; omega) w)
          have HA2 := Lib.hid (fun w => all_ok hall.2 (by rw [List.length_append]; have := HTL2.out; simp only [List.length_cons, List.length_nil]; omega) w)
          have htI : ((str T).size : Int) ≤ 30000 := by rw [size_str]; have := HTL2.out; omega
          clear hall hT hmL hke hk hlt hbw HTL HMAP
          go_wp2_with fail
          rw [show str T ++ ⟨#[32, 62]⟩ = str (T ++ [32, 62]) from app_lit T #[32, 62]]
          refine (HA1.out _).mono ?_
          rintro e w4 ⟨a1, p1, rfl, hr4, hb4⟩
          obtain ⟨w5, hw5⟩ : ∃ w5, w5 = w4.alloc (.cells #[.int .i64 0, .int .i64 0, .int .i64 0] 26) := ⟨_, rfl⟩
          have hb45 : Below w4.heap.size w4 w5 := by rw [hw5]; exact (Below.refl _ _).alloc (Nat.le_refl _) _
          have HB5 := Lib.hid (HBW.out.trans ((hb4.trans (hb45.mono hb4.size)).mono HBW.out.size))
          have HR5 := Lib.hid (hr4.below hb45 (Nat.le_refl _))
          have HW5 := Lib.hid hw5
          clear hw5 hb4 hb45 hr4
          go_upto_region 27 with fail
          rw [← HW5.out]
          go_wp2_with fail
          rw [show str T ++ ⟨#[47, 62]⟩ = str (T ++ [47, 62]) from app_lit T #[47, 62]]
          refine (HA2.out _).mono ?_
          rintro e w6 ⟨a2, p2, rfl, hr6, hb6⟩
          obtain ⟨w7, hw7⟩ : ∃ w7, w7 = w6.alloc (.cells #[.int .i64 0, .int .i64 0, .int .i64 0] 26) := ⟨_, rfl⟩
          have hb67 : Below w6.heap.size w6 w7 := by rw [hw7]; exact (Below.refl _ _).alloc (Nat.le_refl _) _
          have hb57 := hb6.trans (hb67.mono hb6.size)
          have HB7 := Lib.hid (HB5.out.trans (hb57.mono HB5.out.size))
          have HR7 := Lib.hid (HR5.out.below hb57 (Nat.le_refl _))
          have HQ7 := Lib.hid (hr6.below hb67 (Nat.le_refl _))
          have HW7 := Lib.hid hw7
          clear hw7 hb6 hb67 hr6 hb57
          obtain ⟨w8, hw8⟩ : ∃ w8, w8 = w7.alloc (.cells #[.int .i64 1, .string (str nm), .slice va0 L.length vc0, .string ⟨#[]⟩, .int .i64 0, .int .i64 0, .int .i64 0] 34) := ⟨_, rfl⟩
          have hb78 : Below w7.heap.size w7 w8 := by rw [hw8]; exact (Below.refl _ _).alloc (Nat.le_refl _) _
          have hrow8 : w8.heap[w7.heap.size]? = some (.cells #[.int .i64 1, .string (str nm), .slice va0 L.length vc0, .string (str []), .int .i64 0, .int .i64 0, .int .i64 0] 34 (0, 0)) := by rw [hw8]; exact heap_alloc_new w7 _
          have HB8 := Lib.hid (HB7.out.trans (hb78.mono HB7.out.size))
          have HQ8 := Lib.hid (HQ7.out.below hb78 (Nat.le_refl _))
          have HS1 := Lib.hid (Same_yes (.slice a1 1 p1) (.slice (some ⟨w7.heap.size, 0, none⟩) 1 1) _ [⟨1, nm, L, [], 0, 0, 0⟩] w8 (HR7.out.below hb78 (Nat.le_refl _)) (rd_one hrow8 (HV.out.below HB8.out (Nat.le_refl _))) rfl (fun i x y hx hy => by
            cases i with
            | zero => simp only [List.map_cons, List.getElem?_cons_zero, Option.some.injEq] at hx hy; subst hx; subst hy; exact ⟨rfl, rfl, rfl, rfl⟩
            | succ i => simp at hy))
          have HW8 := Lib.hid hw8
          clear hw8 hb78 hrow8
          go_upto_region 28 with fail
          rw [← HW7.out]
          go_wp2_with fail
          rw [← HW8.out]
          refine HS1.out.mono ?_
          rintro e w9 ⟨rfl, hb9⟩
          have HB9 := Lib.hid (HB8.out.trans (hb9.mono HB8.out.size))
          have HQ9 := Lib.hid (HQ8.out.below hb9 (Nat.le_refl _))
          clear hb9 HS1
          obtain ⟨wa, hwa⟩ : ∃ wa, wa = w9.alloc (.cells #[.int .i64 2, .string (str nm), .slice va0 L.length vc0, .string ⟨#[]⟩, .int .i64 0, .int .i64 0, .int .i64 0] 34) := ⟨_, rfl⟩
          have hb9a : Below w9.heap.size w9 wa := by rw [hwa]; exact (Below.refl _ _).alloc (Nat.le_refl _) _
          have hrowa : wa.heap[w9.heap.size]? = some (.cells #[.int .i64 2, .string (str nm), .slice va0 L.length vc0, .string (str []), .int .i64 0, .int .i64 0, .int .i64 0] 34 (0, 0)) := by rw [hwa]; exact heap_alloc_new w9 _
          have HBA := Lib.hid (HB9.out.trans (hb9a.mono HB9.out.size))
          have HS2 := Lib.hid (Same_yes (.slice a2 1 p2) (.slice (some ⟨w9.heap.size, 0, none⟩) 1 1) _ [⟨2, nm, L, [], 0, 0, 0⟩] wa (HQ9.out.below hb9a (Nat.le_refl _)) (rd_one hrowa (HV.out.below HBA.out (Nat.le_refl _))) rfl (fun i x y hx hy => by
            cases i with
            | zero => simp only [List.map_cons, List.getElem?_cons_zero, Option.some.injEq] at hx hy; subst hx; subst hy; exact ⟨rfl, rfl, rfl, rfl⟩
            | succ i => simp at hy))
          have HWA := Lib.hid hwa
          clear hwa hb9a hrowa
          go_wp2_with fail
          rw [← HWA.out]
          refine HS2.out.mono ?_
          rintro e wb ⟨rfl, hbb⟩
          have HBB := Lib.hid (HBA.out.trans (hbb.mono HBA.out.size))
          clear hbb HS2
          go_wp2_with fail
          refine (HLV.out _).mono ?_
          rintro e wd ⟨rfl, hbd⟩
          have HBD := Lib.hid (HBB.out.trans (hbd.mono HBB.out.size))
          clear hbd
          go_wp2
          go_ret
          exact ⟨rfl, HBD.out⟩

set_option maxRecDepth 100000 in
theorem lifted_TokenTags (os : Os) (started : os.Started) (H : Type) (enc : TypeId × Value → H) :
    ReturnsInHanded {} Try.checked os 8 .any (Rows.tokenTagsSpec.pre6 enc Try.prog Try.f8 Rows.tokenTagsRow.domain false) (Rows.tokenTagsSpec.post enc Try.prog Try.f8 false true false false) := by
  refine returnsInHanded_of_change (C := Try.checked) own_knob started (by kernel_rfl) Try.func8
    (ChangeSpec.witness6 (enc := enc) (C := Try.checked) false ⟨#[], #[.string .empty, .slice none 0 0, .int .u64 0], []⟩ 8 (by kernel_rfl) (by kernel_rfl) (by kernel_rfl) (by kernel_rfl)) ?_
  intro W base args ds gs before hval0 hW _ _
  have hval : ∀ (j : Nat) t v, Try.f8.params[j]? = some t → args[j]? = some v → Value.okWide Try.prog W .any base t v := hval0
  have hW' := hW
  obtain ⟨p, q, hA0, hV, rfl, _, _⟩ := hW
  have hA : DataW.TrodAll enc Try.prog W 0 (fun _ => true) true Try.f8.params.toList args.toList ds p := hA0
  rw [Try.params8] at hA hval
  obtain ⟨v0, vs0, d0, ds0, p0, q0, hargs, rfl, rfl, h0, r0⟩ := trodAll_cons hA
  obtain ⟨v1, vs1, d1, ds1, p1, q1, rfl, rfl, rfl, h1, r1⟩ := trodAll_cons r0
  obtain ⟨v2, vs2, d2, ds2, p2, q2, rfl, rfl, rfl, h2, r2⟩ := trodAll_cons r1
  obtain ⟨rfl, rfl, rfl⟩ := trodAll_nil r2
  obtain rfl : args = #[v0, v1, v2] := by cases args; simp_all
  obtain ⟨rfl, rfl⟩ := trodVars_none hV
  obtain ⟨a0, rfl, rfl, rfl, w0⟩ := open_string Try.underlying9 (hval 0 9 v0 rfl rfl) h0
  obtain ⟨l1, g1, w1⟩ := open_attrs2 (hval 1 32 v1 rfl rfl) h1
  obtain ⟨a2, rfl, rfl, rfl, w2⟩ := open_int Try.underlying44 (hval 2 44 v2 rfl rfl) h2
  clear hA0 hval0
  refine (walk_TokenTags a0 (by unfold maxLen at w0; exact w0) v1 l1 W g1 w1 a2 (wf_u64 w2)).mono fun e W' ⟨he, hb⟩ => ?_
  subst he
  exact ⟨_, rfl, law_post (by kernel_rfl) rfl rfl rfl hW' hb⟩

/-- the statement of TokenTags -/
theorem proved_TokenTags : Rows.TokenTagsSaid :=
  OpenClaim.holds_of_wide 8 Try.f8 rfl rfl rfl rfl rfl rfl rfl ⟨rfl, rfl, rfl, rfl, rfl⟩ rfl rfl rfl rfl rfl (by kernel_rfl) Try.func8 (by kernel_rfl)
    (of_decide_eq_true (by kernel_rfl)) (by unfold Func.isWrapper; first | (rw [if_pos (by decide +kernel)]; kernel_rfl) | (rw [if_neg (by decide +kernel)]; exact ⟨rfl, rfl⟩))
    (fun os started H enc _ => lifted_TokenTags os started H enc)
end Go.Proofs.Ytldgjiohigiioaa
