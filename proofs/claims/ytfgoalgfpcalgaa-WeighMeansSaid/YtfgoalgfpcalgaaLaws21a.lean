/-
  Layer 21: the statement WeighCounts: how many of any literals any truths make true. For every input, with no condition. Own work.
-/
import Derived.Test.YtfgoalgfpcalgaaCount
import Derived.Test.YtfgoalgfpcalgaaLives21
import Derived.Test.YtfgoalgfpcalgaaLaw
import Derived.Deep.Grids
import Derived.ChangeSlices
namespace Go.Proofs.Ytfgoalgfpcalgaa
set_option linter.unusedVariables false
set_option linter.unusedSimpArgs false
open Go.ChangeShapes Go.WideShapes Go.ChangeAt Go.RowKit

section
variable {H : Type} {enc : TypeId × Value → H} {W : World} {b0 base : Nat} {v : Value} {d : DataW H} {p : List MemPlace}
theorem open_reads_ints (hv : Value.okWide Try.prog W .any b0 22 v) (h : DataW.Trod enc Try.prog W base (fun _ => true) true 22 v d p) :
    ∃ l : List Int, Reads W iV v l ∧ ∀ n ∈ l, -9223372036854775808 ≤ n ∧ n ≤ 9223372036854775807 := by
  obtain ⟨a0, len, cap, rfl⟩ := okWide_slice Try.underlying22 hv
  obtain ⟨fuel, hf⟩ := h
  rcases open_ints Try.underlying22 Try.underlying3 (by kernel_rfl) hf with ⟨hcs, hx⟩ | ⟨a, len', cap', zs, hcs, _, hl, hm, hz, hx, hcell, hwz⟩
  · simp [Value.cells] at hcs
    obtain ⟨rfl, rfl, rfl⟩ := hcs
    exact ⟨[], .inl ⟨rfl, rfl⟩, fun n hn => by simp at hn⟩
  · simp [Value.cells] at hcs
    obtain ⟨rfl, rfl, rfl⟩ := hcs
    simp only [if_true] at hz
    have hlen : (zs.take len).length = len := by rw [List.length_take]; omega
    refine ⟨zs.take len, .inr ⟨a, cap, by rw [hlen], by omega, by unfold maxLen at hm; exact hm, fun j n hj => ?_⟩, fun n hn => wf_i64 (hwz n (List.mem_of_mem_take hn))⟩
    have hjl : j < len := by have := (List.getElem?_eq_some_iff.1 hj).1; omega
    rw [List.getElem?_take, if_pos hjl] at hj
    rw [hcell j (by omega)]
    simp only [List.getD, hj, Option.getD_some]
    rfl
theorem open_reads_bools (hv : Value.okWide Try.prog W .any b0 31 v) (h : DataW.Trod enc Try.prog W base (fun _ => true) true 31 v d p) :
    ∃ l : List Bool, Reads W bV v l := by
  obtain ⟨a0, len, cap, rfl⟩ := okWide_slice Try.underlying31 hv
  obtain ⟨fuel, hf⟩ := h
  rcases Go.Deep.open_bools Try.underlying31 Try.underlying4 (by kernel_rfl) hf with ⟨hcs, hx⟩ | ⟨a, len', cap', B, hcs, _, hl, hm, hx, hcell⟩
  · simp [Value.cells] at hcs
    obtain ⟨rfl, rfl, rfl⟩ := hcs
    exact ⟨[], .inl ⟨rfl, rfl⟩⟩
  · simp [Value.cells] at hcs
    obtain ⟨rfl, rfl, rfl⟩ := hcs
    refine ⟨(List.range len).map B, .inr ⟨a, cap, by simp, by simp; omega, by unfold maxLen at hm; exact hm, fun j n hj => ?_⟩⟩
    have hjl : j < len := by have := (List.getElem?_eq_some_iff.1 hj).1; simpa using this
    rw [List.getElem?_map, List.getElem?_range hjl] at hj
    simp only [Option.map_some, Option.some.injEq] at hj
    rw [hcell j (by omega), ← hj]
    rfl
end
theorem ownL_bd (l : List Int) (most : Nat) : ∀ (j : Nat) (n : Int), (ownL l most)[j]? = some n → -1000 ≤ n ∧ n ≤ 1000 ∧ n ≠ 0 := by
  intro j n h
  unfold ownL at h
  rw [List.getElem?_map] at h
  cases hq : (l.take most)[j]? with
  | none => rw [hq] at h; simp at h
  | some q =>
    rw [hq] at h
    simp only [Option.map_some, Option.some.injEq] at h
    rw [← h]
    exact ownE_bd q
theorem ownL_len (l : List Int) (most : Nat) : (ownL l most).length ≤ most := by
  unfold ownL
  rw [List.length_map]
  exact List.length_take_le _ _
set_option maxHeartbeats 2000000 in
theorem walk_WeighCounts (lv tv : Value) (l : List Int) (ts : List Bool) (w : World) (hl : Reads w iV lv l) (hwf : ∀ n ∈ l, -9223372036854775808 ≤ n ∧ n ≤ 9223372036854775807) (ht : Reads w bV tv ts) :
    Calls Try.prog 4 #[lv, tv] w fun e w' => e = .returned (.bool true) ∧ Below w.heap.size w w' := by
  have h1 := own_any lv l 60 (by omega) w hl hwf
  have H1 := Lib.hid h1; clear h1 hwf hl
  obtain ⟨ta, tcap, rfl⟩ : ∃ a c, tv = .slice a ts.length c := by
    rcases ht with ⟨rfl, rfl⟩ | ⟨a, cap, rfl, _⟩
    · exact ⟨_, _, rfl⟩
    · exact ⟨_, _, rfl⟩
  have HT := Lib.hid ht; clear ht
  go_enter Try.func4, Try.ntmps4
  go_wp2_with fail
  refine H1.out.mono ?_
  rintro e w1 ⟨v, rfl, hs, hb⟩
  have hT1 := HT.out.below hb (Nat.le_refl _)
  have HT1 := Lib.hid hT1; clear hT1
  have HS := Lib.hid hs
  have HB := Lib.hid hb; clear hb
  have hbd := ownL_bd l 60
  have HBD := Lib.hid hbd; clear hbd
  have hlen := ownL_len l 60
  generalize ownL l 60 = xs at hs HS HBD hlen
  obtain ⟨xa, xcap, rfl, hx1, hx2, hxc⟩ := hs
  have HXC := Lib.hid hxc; clear hxc
  have hxb : (xs.length : Int) ≤ 60 := by omega
  by_cases hbig : 100 < ts.length
  · have hbig' : (100 : Int) < ts.length := by omega
    go_wp2_with fail
    refine (lives21 _).mono ?_
    rintro e w2 ⟨rfl, hb2⟩
    go_wp2
    go_ret
    exact ⟨rfl, HB.out.trans (hb2.mono HB.out.size)⟩
  · have hsm : (ts.length : Int) ≤ 100 := by omega
    have c1 := fun n => True_any n _ ts w1 HT1.out
    have C1 := Lib.hid c1; clear c1
    have c2 := Count_any _ _ xs ts w1 HS.out hlen HBD.out HT1.out (by omega)
    have C2 := Lib.hid c2; clear c2 hbig
    go_wp2_with fail
    go_loop [6, 17] (fun c i => ∃ k : Nat, k ≤ xs.length ∧ i = .int .i64 k ∧ c = .int .i64 (cntL ts (xs.take k))) (fun _ i => xs.length - (intOf i).toNat)
    case atStart => exact ⟨0, by omega, rfl, rfl⟩
    case round =>
      obtain ⟨k, hk, rfl, rfl⟩ := hrel
      obtain ⟨hc1, hc2⟩ := cntL_bd ts (xs.take k)
      have hc3 : (xs.take k).length ≤ k := List.length_take_le _ _
      by_cases hlt : k < xs.length
      · obtain ⟨n, hn⟩ : ∃ n, xs[k]? = some n := ⟨_, List.getElem?_eq_getElem hlt⟩
        obtain ⟨b, off, rfl, hbl, hci⟩ := HXC.out k n hn
        unfold iV at hci
        have HSN := Lib.hid (cntL_snoc ts xs k n hn)
        have HN := Lib.hid hn; clear hn
        have hcn := C1.out n
        generalize cntL ts (xs.take k) = c0 at hc1 hc2 HSN ⊢
        generalize trueB n ts = t at hcn HSN
        have HCN := Lib.hid hcn; clear hcn
        cases t
        all_goals
          go_wp2_with (go_at_call 13; with_reducible refine HCN.out.mono ?_; rintro e w' ⟨rfl, rfl⟩)
          exact ⟨⟨k + 1, by omega, by go_num, by rw [HSN.out]; simp⟩, by simp [intOf]; omega⟩
      · have hkl : k = xs.length := by omega
        have hft : xs.take k = xs := List.take_of_length_le (by omega)
        rw [hft]
        rw [hft] at hc1 hc2
        have HF := Lib.hid hft; clear hft
        have HKL := Lib.hid hkl; clear hkl
        generalize cntL ts xs = c0 at hc1 hc2 C2 ⊢
        go_wp2_with fail
        refine C2.out.mono ?_
        rintro e w' ⟨rfl, rfl⟩
        go_wp2_with fail
        refine (lives21 _).mono ?_
        rintro e w2 ⟨rfl, hb2⟩
        go_wp2
        go_ret
        exact ⟨rfl, HB.out.trans (hb2.mono HB.out.size)⟩

set_option maxRecDepth 100000 in
theorem lifted_WeighCounts (os : Os) (started : os.Started) (H : Type) (enc : TypeId × Value → H) :
    ReturnsInHanded {} Try.checked os 4 .any (Rows.weighCountsSpec.pre6 enc Try.prog Try.f4 Rows.weighCountsRow.domain false) (Rows.weighCountsSpec.post enc Try.prog Try.f4 false true false false) := by
  refine returnsInHanded_of_change (C := Try.checked) own_knob started (by kernel_rfl) Try.func4
    (ChangeSpec.witness6 (enc := enc) (C := Try.checked) false ⟨#[], #[.slice none 0 0, .slice none 0 0], []⟩ 8 (by kernel_rfl) (by kernel_rfl) (by kernel_rfl) (by kernel_rfl)) ?_
  intro W base args ds gs before hval0 hW _ _
  have hval : ∀ (j : Nat) t v, Try.f4.params[j]? = some t → args[j]? = some v → Value.okWide Try.prog W .any base t v := hval0
  have hW' := hW
  obtain ⟨p, q, hA0, hV, rfl, _, _⟩ := hW
  have hA : DataW.TrodAll enc Try.prog W 0 (fun _ => true) true Try.f4.params.toList args.toList ds p := hA0
  rw [Try.params4] at hA hval
  obtain ⟨v0, vs0, d0, ds0, p0, q0, hargs, rfl, rfl, h0, r0⟩ := trodAll_cons hA
  obtain ⟨v1, vs1, d1, ds1, p1, q1, rfl, rfl, rfl, h1, r1⟩ := trodAll_cons r0
  obtain ⟨rfl, rfl, rfl⟩ := trodAll_nil r1
  obtain rfl : args = #[v0, v1] := by cases args; simp_all
  obtain ⟨rfl, rfl⟩ := trodVars_none hV
  obtain ⟨l0, g0, w0⟩ := open_reads_ints (hval 0 22 v0 rfl rfl) h0
  obtain ⟨l1, g1⟩ := open_reads_bools (hval 1 31 v1 rfl rfl) h1
  clear hA0 hval0
  refine (walk_WeighCounts v0 v1 l0 l1 W g0 w0 g1).mono fun e W' ⟨he, hb⟩ => ?_
  subst he
  exact ⟨_, rfl, law_post (by kernel_rfl) rfl rfl rfl hW' hb⟩

/-- the statement of WeighCounts -/
theorem proved_WeighCounts : Rows.WeighCountsSaid :=
  OpenClaim.holds_of_wide 4 Try.f4 rfl rfl rfl rfl rfl rfl rfl ⟨rfl, rfl, rfl, rfl, rfl⟩ rfl rfl rfl rfl rfl (by kernel_rfl) Try.func4 (by kernel_rfl)
    (of_decide_eq_true (by kernel_rfl)) (by unfold Func.isWrapper; first | (rw [if_pos (by decide +kernel)]; kernel_rfl) | (rw [if_neg (by decide +kernel)]; exact ⟨rfl, rfl⟩))
    (fun os started H enc _ => lifted_WeighCounts os started H enc)
end Go.Proofs.Ytfgoalgfpcalgaa
