/-
  Layer 5: the contract of Print. Own work.
-/
import Derived.Test.YtnghagikchffiaaDoorPrint5
import Derived.Test.YtnghagikchffiaaDoorPicks5
import Derived.Test.YtnghagikchffiaaDoorJoinShelf
namespace Go.Proofs.YtnghagikchffiaaDoor
set_option linter.unusedVariables false
set_option linter.unusedSimpArgs false
open Go.RowKit Go.Joins

theorem join_prs (p : Iv) (r : List Iv) : Lib.join (((p :: r).map prB).map (·.data.toList)) ([44] : List UInt8) = prL p ++ prs r := by
  rw [List.map_cons, List.map_cons, Lib.join_cons, prB_list]
  congr 1
  induction r with
  | nil => rfl
  | cons q r ih =>
    unfold Lib.joinTail at ih ⊢
    rw [List.map_cons, List.map_cons, List.map_cons, List.flatten_cons, ih, prB_list]
    simp [prs]
theorem prL_len {p : Iv} (h : smallV p) : (prL p).length ≤ 203 := by
  unfold prL vE
  have e1 : p.lo.ver.data.toList.length = p.lo.ver.size := Array.length_toList
  have e2 : p.hi.ver.data.toList.length = p.hi.ver.size := Array.length_toList
  obtain ⟨h1, h2⟩ := h
  split
  · simp; omega
  · simp; omega
theorem prs_le : ∀ {l : List Iv}, (∀ p ∈ l, smallV p) → (prs l).length ≤ l.length * 204
  | [], _ => Nat.le_refl _
  | p :: r, h => by
    have h1 := prL_len (h p (by simp))
    have h2 := prs_le (l := r) fun q hq => h q (by simp [hq])
    simp [prs]; omega
theorem prR_len {hard : Bool} {ver : ByteArray} {l : List Iv} (hl : ∀ p ∈ l, smallV p) (hn : l.length ≤ 20) (hv : ver.size ≤ 100) : (prR hard ver l).length ≤ 5000 := by
  unfold prR
  split
  · cases l with
    | nil => simp
    | cons p r =>
      have h1 := prL_len (hl p (by simp))
      have h2 := prs_le (l := r) fun q hq => hl q (by simp [hq])
      simp only [List.length_append, List.length_cons] at *
      omega
  · have : ver.data.toList.length = ver.size := Array.length_toList
    omega
set_option maxRecDepth 100000 in
set_option maxHeartbeats 1000000 in
theorem Print_any (hard : Bool) (ver : ByteArray) (pv : Value) (l : List Iv) (hv : ver.size ≤ 100) (hl : ∀ p ∈ l, smallV p) (hn : l.length ≤ 20) (h1 : hard = true → 1 ≤ l.length) (w : World) (hr : RdI w pv l) :
    Calls Tryd.prog 16 #[.agg #[.bool hard, .string ver, pv]] w fun e w' => e = .returned (.string (str (prR hard ver l))) ∧ Below w.heap.size w w' := by
  obtain ⟨pa, pc, rfl⟩ := rd_shape hr
  have HB0 := Lib.hid ((Below.refl w.heap.size w).alloc (Nat.le_refl _) (.cells #[.bool hard, .string ver, .slice pa l.length pc] 25))
  have HR := Lib.hid hr
  clear hr
  cases hard
  · have he : str (prR false ver l) = ver := by unfold prR; simp only [Bool.false_eq_true, if_false]; exact str_of ver
    rw [he]
    go_enter Tryd.func16, Tryd.ntmps16
    go_wp2
    go_ret
    exact ⟨rfl, HB0.out⟩
  have h1' := h1 rfl
  have HL := Lib.hid hl
  have hnI : (l.length : Int) ≤ 20 := by omega
  clear hl h1
  go_enter Tryd.func16, Tryd.ntmps16
  go_wp2_with fail
  generalize (w.alloc (.cells #[.bool true, .string ver, .slice pa l.length pc] 25)) = w1 at HB0 ⊢
  go_loopw [3, 14] (fun v i wr => ∃ (k : Nat) (u : Value), u = v ∧ k ≤ l.length ∧ i = .int .i64 k ∧ wr.ownsRow w1.heap.size 9 1 u k (((l.take k).map prB).map sV) ∧ Below w1.heap.size w1 wr) (fun _ i _ => l.length - (intOf i).toNat)
  case atStart => exact ⟨0, _, rfl, by omega, rfl, World.ownsRow_nil _ _ _ _, Below.refl _ _⟩
  case round =>
    obtain ⟨k, v, rfl, hk, rfl, hown, hb⟩ := hrel
    have HB := Lib.hid hb
    by_cases hlt : k < l.length
    · obtain ⟨p, hp⟩ : ∃ p, l[k]? = some p := ⟨_, List.getElem?_eq_getElem hlt⟩
      obtain ⟨a, cap, hpv, _, _, hc⟩ : ∃ a cap, Value.slice pa l.length pc = .slice (some a) l.length cap ∧ l.length ≤ cap ∧ cap ≤ 9223372036854775807 ∧ ∀ (i : Nat) p, l[i]? = some p → ∀ (c : Nat) u, (ivCells p)[c]? = some u → w.cell? (a.add (i * 6 + c)) = some u := by
        rcases HR.out with ⟨_, h⟩ | h
        · subst h; simp at hlt
        · exact h
      cases hpv
      obtain ⟨k0, k1, k2, k3, k4, k5⟩ := RdI.at hc hp (HB0.out.trans (hb.mono HB0.out.size)) (Nat.le_refl _)
      have hsn : ((l.take (k + 1)).map prB).map sV = ((l.take k).map prB).map sV ++ [.string (prB p)] := by rw [take_snoc _ k p hp]; simp [sV]
      have HSN := Lib.hid hsn
      have HPI := Lib.hid (fun w => printI_at p (HL.out p (List.mem_of_getElem? hp)) w)
      have hltI : (k : Int) < l.length := by omega
      have HO := Lib.hid hown
      have hba := hb.alloc hb.size (.cells #[.bool p.lo.has, .string p.lo.ver, .bool p.lo.cl, .bool p.hi.has, .string p.hi.ver, .bool p.hi.cl] 61)
      have HBA := Lib.hid hba
      unfold ivV at HPI
      generalize ((l.take k).map prB).map sV = xs at HO HSN
      clear hc hp hsn hb hown hba
      go_wp2_with fail
      refine (HPI.out _).mono ?_
      rintro e w2 ⟨rfl, hb2⟩
      have HB2 := Lib.hid (HBA.out.trans (hb2.mono HBA.out.size))
      have hown2 := (HO.out.alloc (.cells #[.bool p.lo.has, .string p.lo.ver, .bool p.lo.cl, .bool p.hi.has, .string p.hi.ver, .bool p.hi.cl] 61)).kept (below_grown hb2 none) (by cases hc : v.ownBlock <;> simp)
      have hzz := HB2.out.size
      clear hb2 k0 k1 k2 k3 k4 k5
      generalize hpb : prB p = pb at HSN ⊢
      go_wp2_with (at_builtin
                   refine app1 rfl _ _ 42 9 rfl (.string ByteArray.empty) 16 w1.heap.size k Tryd.underlying42 st_info rfl v _ rfl hown2 rfl rfl (by omega) (by omega) hzz ?_)
      intro v' w' ho' hg' hb'
      have HO' := Lib.hid ho'
      have HB' := Lib.hid hb'
      clear ho' hg' hb' hown2
      go_wp2
      go_roundw
      case rel => exact ⟨k + 1, _, rfl, by omega, by go_num, by rw [HSN.out]; exact HO'.out, HB2.out.trans HB'.out⟩
      case measure => simp [intOf]; omega
    · have hkl : k = l.length := by omega
      have hltI : (l.length : Int) ≤ k := by omega
      obtain ⟨p0, r0, hl0⟩ : ∃ p r, l = p :: r := by
        cases l with
        | nil => simp at h1'
        | cons p r => exact ⟨p, r, rfl⟩
      have hown' := hown
      rw [hkl, List.take_length] at hown'
      have hrd : RdS wr v (l.map prB) := RdS.of_own (by rw [List.length_map]; exact hown')
      have hfin : (⟨(Lib.join ((l.map prB).map (·.data.toList)) (⟨#[44]⟩ : ByteArray).data.toList).toArray⟩ : ByteArray) = str (prR true ver l) := by
        rw [hl0]
        show (⟨(Lib.join (((p0 :: r0).map prB).map (·.data.toList)) ([44] : List UInt8)).toArray⟩ : ByteArray) = _
        rw [join_prs]
        rfl
      have hlen : (Lib.join ((l.map prB).map (·.data.toList)) (⟨#[44]⟩ : ByteArray).data.toList).length ≤ 140737488355328 := by
        have : (Lib.join ((l.map prB).map (·.data.toList)) (⟨#[44]⟩ : ByteArray).data.toList) = prR true ver l := by
          have := congrArg (fun b : ByteArray => b.data.toList) hfin
          simpa [str] using this
        rw [this]
        have := prR_len (hard := true) (ver := ver) HL.out hn hv
        omega
      rcases hrd with ⟨_, h0⟩ | ⟨a, cap, hva, hc1, hc2, hcell⟩
      · rw [hl0] at h0; simp at h0
      · obtain ⟨g9, c9, hv9⟩ := ownsRow_form hown (by omega)
        have hg9 := (hown.lt g9 (by rw [hv9]; rfl)).2
        rw [hv9] at hva
        injection hva with e1 e2 e3
        injection e1 with e1
        subst e1
        subst e3
        have HJ := Lib.hid (Tryd.strings_Join g9 0 c9 (l.map prB) ⟨#[44]⟩ wr (fun j x hx => by
          have := hcell j x hx
          have hadd : (⟨g9, 0, none⟩ : Addr).add j = ⟨g9, 0 + j, none⟩ := by unfold Addr.add; split <;> simp_all
          rw [hadd] at this
          exact this) hg9 (by rw [List.length_map]; omega) hc1 hlen)
        have HFIN := Lib.hid hfin
        rw [e2] at hv9
        have HBW := Lib.hid (HB0.out.trans (hb.mono HB0.out.size))
        clear hcell hlen hfin hown hown' hb hg9 hl0 e2 hc1
        generalize l.map prB = xs at HJ HFIN hv9
        subst hv9
        go_wp2_with fail
        refine HJ.out.mono ?_
        rintro e w3 ⟨rfl, hb3⟩
        go_wp2
        go_ret
        exact ⟨ret_str HFIN.out, HBW.out.trans (hb3.mono HBW.out.size)⟩
end Go.Proofs.YtnghagikchffiaaDoor
