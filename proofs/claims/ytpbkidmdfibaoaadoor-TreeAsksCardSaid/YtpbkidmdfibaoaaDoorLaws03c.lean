/-
  Layer 3: the card TreeAsks: what any tree says of its attributes, its elements, its text. For every input. Own work.
-/
import Derived.Test.YtpbkidmdfibaoaaDoorLives3
import Derived.Test.YtpbkidmdfibaoaaDoorRefS3
import Derived.Test.YtpbkidmdfibaoaaDoorAsk3
import Derived.Test.YtpbkidmdfibaoaaDoorOpenN3
import Derived.Test.YtpbkidmdfibaoaaDoorDoor
import Derived.Lib.LaidU8
namespace Go.Proofs.YtpbkidmdfibaoaaDoor
set_option linter.unusedVariables false
set_option linter.unusedSimpArgs false
open Go.ChangeShapes Go.WideShapes Go.ChangeAt Go.RowKit
open Go.ChangeMaps (open_string shut_string)

theorem RowK.rd {w0 w : World} {v : Value} {kds : List Kd} (h : RowK w0 v kds w) : RdSl 4 (NdAt w (allF w)) v (kds.map (·.x)) :=
  (NdV.of_own (F := allF w) (n := []) (t := []) (ats := []) (va := .slice none 0 0) h.own (.inl ⟨rfl, rfl⟩) (fun hn => absurd rfl hn) (fun q hq => (h.kid q hq).frame (fun _ _ => rfl) fun b hb => hb.1) (fun b hb => (h.own.lt b hb).2)).rd
theorem RdSl.belowN {w w' : World} {v : Value} {l : List Tr} {B : Nat} (h : RdSl 4 (NdAt w (allF w)) v l) (hb : Below B w w') (hB : w.heap.size ≤ B) : RdSl 4 (NdAt w' (allF w')) v l := h.mono fun _ _ hx => hx.below hb hB
/-- the parameter's variable stands in X -/
abbrev Sa3 (X : Nat) (x : Tr) (c1 : Option Addr) (c2 : Nat) (c3 : Option Addr) (c4 : Nat) (w' : World) : Prop := w'.cell? ⟨X, 0, none⟩ = some (.string (str x.n)) ∧ w'.cell? ⟨X, 1, none⟩ = some (.slice c1 x.ats.length c2) ∧ w'.cell? ⟨X, 2, none⟩ = some (.slice c3 x.ks.length c4) ∧ w'.cell? ⟨X, 3, none⟩ = some (.string (str x.t))
theorem Sa3.below {X : Nat} {x : Tr} {c1 c3 : Option Addr} {c2 c4 : Nat} {w' w5 : World} {B : Nat} (h : Sa3 X x c1 c2 c3 c4 w') (hb : Below B w' w5) (hB : w'.heap.size ≤ B) : Sa3 X x c1 c2 c3 c4 w5 := by
  obtain ⟨h0, h1, h2, h3⟩ := h
  have hc : ∀ {A : Addr} {v : Value}, w'.cell? A = some v → w5.cell? A = some v := fun h => (hb.cell (Nat.lt_of_lt_of_le (World.block_lt_of_cell? w' _ h) hB)).trans h
  exact ⟨hc h0, hc h1, hc h2, hc h3⟩
set_option maxRecDepth 100000 in
set_option maxHeartbeats 4000000 in
theorem walk_TreeAsks (x : Tr) (va vk : Value) (s : ByteArray) (hss : s.size ≤ 9223372036854775807) (w : World) (hx : NdV w (allF w) x va vk) (hT : Lib.Utf8Tabs 1 2 w) :
    Calls Tryd.prog 5 #[.agg #[.string (str x.n), va, vk, .string (str x.t)], .string s] w fun e w' => e = .returned (.bool true) ∧ Below w.heap.size w w' := by
  obtain ⟨c1, c2, c3, c4, rfl, rfl⟩ := node_cells hx
  obtain ⟨w1, hw1⟩ : ∃ w1, w1 = w.alloc (.cells #[.string (str x.n), .slice c1 x.ats.length c2, .slice c3 x.ks.length c4, .string (str x.t)] 25) := ⟨_, rfl⟩
  have hb1 : Below w.heap.size w w1 := by rw [hw1]; exact (Below.refl _ _).alloc (Nat.le_refl _) _
  have hX : w1.heap[w.heap.size]? = some (.cells #[.string (str x.n), .slice c1 x.ats.length c2, .slice c3 x.ks.length c4, .string (str x.t)] 25 (0, 0)) := by rw [hw1]; exact heap_alloc_new w _
  have HXC := Lib.hid (show ∀ w2, Below w1.heap.size w1 w2 → Sa3 w.heap.size x c1 c2 c3 c4 w2 from fun w2 hb => Sa3.below ⟨by rw [cell_of_row w1 _ 0 _ _ (0, 0) hX]; rfl, by rw [cell_of_row w1 _ 1 _ _ (0, 0) hX]; rfl, by rw [cell_of_row w1 _ 2 _ _ (0, 0) hX]; rfl, by rw [cell_of_row w1 _ 3 _ _ (0, 0) hX]; rfl⟩ hb (Nat.le_refl _))
  have hup : ∀ w2, Below w1.heap.size w1 w2 → Below w.heap.size w w2 := fun w2 hb => hb1.trans (hb.mono hb1.size)
  have HUP := Lib.hid hup
  have HN := Lib.hid (show ∀ w2, Below w1.heap.size w1 w2 → NdV w2 (allF w2) x (.slice c1 x.ats.length c2) (.slice c3 x.ks.length c4) from fun w2 hb => hx.onto (hup w2 hb) (Nat.le_refl _))
  have HTT := Lib.hid (show ∀ w2, Below w1.heap.size w1 w2 → Lib.Utf8Tabs 1 2 w2 from fun w2 hb => Utf8Tabs_below hT (hup w2 hb))
  have HW1 := Lib.hid hw1
  have HB1 := Lib.hid hb1
  have HKD := Lib.hid (show ∀ w2, Below w1.heap.size w1 w2 → RdSl 4 (NdAt w2 (allF w2)) (.slice c3 x.ks.length c4) x.ks from fun w2 hb => (HN.out w2 hb).rd)
  have HAD := Lib.hid (show ∀ w2, Below w1.heap.size w1 w2 → RdAs w2 (.slice c1 x.ats.length c2) x.ats from fun w2 hb => (HN.out w2 hb).ats)
  have HKW := Lib.hid (show RdSl 4 (NdAt w (allF w)) (.slice c3 x.ks.length c4) x.ks from hx.rd)
  clear hx hT hw1 hb1 hX hup
  go_enter Tryd.func5, Tryd.ntmps5
  go_upto_region 1 with fail
  rw [← HW1.out]
  obtain ⟨x0, x1, x2, x3⟩ := HXC.out w1 (Below.refl _ _)
  go_wp2_with fail
  refine (Lights_any x (.slice c1 x.ats.length c2) (.slice c3 x.ks.length c4) w1 (HN.out w1 (Below.refl _ _))).mono ?_
  rintro e w2 ⟨⟨b1, rfl, hsm⟩, hb2⟩
  have HB2 := Lib.hid hb2
  clear hb2 x0 x1 x2 x3
  cases b1 with
  | false =>
    clear hsm
    go_wp2_with (go_at_call 10; refine (lives03 _ (HTT.out _ HB2.out)).mono ?_; rintro e w5 ⟨rfl, hb5⟩)
    go_ret
    exact ⟨rfl, (HUP.out _ HB2.out).trans (hb5.mono (HUP.out _ HB2.out).size)⟩
  | true =>
    have HSM := Lib.hid (hsm rfl)
    clear hsm
    have hal : x.ats.length ≤ 20 := by have := HSM.out.1; cases x; exact this.2.1
    have hkl : x.ks.length ≤ 300 := by have := HSM.out.1; cases x; exact this.1
    have hkl : x.ks.length ≤ 300 := hkl
    have halI : (x.ats.length : Int) ≤ 20 := by omega
    have hklI : (x.ks.length : Int) ≤ 300 := by omega
    obtain ⟨x0, x1, x2, x3⟩ := HXC.out w2 HB2.out
    have HAT := Lib.hid (HAD.out w2 HB2.out)
    have hwr : IntKind.i64.wrap ((x.ats.length : Int) - 1) = (x.ats.length : Int) - 1 := by rw [IntWalk.i64_in _ (by omega)]
    have HDR := Lib.hid (show attrV (x.ats.drop x.ats.length) s = (⟨#[]⟩, false) from attrV_end (Nat.le_refl _))
    go_upto_region 5 with fail
    go_loop [5, 6, 7] (fun v b i => ∃ (m : Nat), m ≤ x.ats.length ∧ i = .int .i64 ((m : Int) - 1) ∧ v = .string (attrV (x.ats.drop m) s).1 ∧ b = .bool (attrV (x.ats.drop m) s).2) (fun _ _ i => (intOf i + 1).toNat)
    case atStart => exact ⟨x.ats.length, Nat.le_refl _, rfl, by rw [HDR.out], by rw [HDR.out]⟩
    case round =>
      obtain ⟨m, hm, rfl, rfl, rfl⟩ := hrel
      clear hwr
      by_cases h0 : m = 0
      · subst h0
        rw [List.drop_zero]
        obtain ⟨A, Bv, hAB⟩ : ∃ A Bv, attrV x.ats s = (A, Bv) := ⟨_, _, rfl⟩
        have HCA := Lib.hid (show ∀ w3, Below w1.heap.size w1 w3 → Calls Tryd.prog 15 #[.agg #[.string (str x.n), .slice c1 x.ats.length c2, .slice c3 x.ks.length c4, .string (str x.t)], .string s] w3 fun e w' => e = .returned (.tuple #[.string A, .bool Bv]) ∧ Below w3.heap.size w3 w' from fun w3 hb => by
          have := Attr_any x _ _ s w3 (HN.out w3 hb)
          rw [hAB] at this
          exact this)
        rw [hAB]
        clear hAB hm
        dsimp only
        have h01 : (((0 : Nat) : Int) - 1) = -1 := rfl
        rw [h01]
        go_wp2_with fail
        refine (HCA.out w2 HB2.out).mono ?_
        rintro e w3 ⟨rfl, hb3⟩
        have HB3 := Lib.hid (HB2.out.trans (hb3.mono HB2.out.size))
        clear hb3 x0 x1 x2 x3 HCA
        obtain ⟨x0, x1, x2, x3⟩ := HXC.out w3 HB3.out
        have HR3 := Lib.hid (show RowK w1 (.slice none 0 0) [] w3 from ⟨World.ownsRow_nil _ _ _ _, fun q hq => (by cases hq), HB3.out⟩)
        go_upto_region 14 with fail
        clear x0 x1 x2 x3
        go_loopw [10, 11, 51] (fun v tx i wr => ∃ (k : Nat) (kds : List Kd), k ≤ x.ks.length ∧ i = .int .i64 k ∧ RowK w1 v kds wr ∧ kds.map (·.x) = (x.ks.take k).filter (isK · s) ∧ tx = .string (str (textM (x.ks.take k)))) (fun _ _ i _ => x.ks.length - (intOf i).toNat)
        case atStart => exact ⟨0, [], by omega, rfl, HR3.out, rfl, rfl⟩
        case round =>
          obtain ⟨k, kds, hk, rfl, hr, hm, rfl⟩ := hrel
          obtain ⟨v, hv⟩ : ∃ v, v = u10 := ⟨_, rfl⟩
          subst hv
          have HR0 := Lib.hid hr
          have HM := Lib.hid hm
          have hbw := hr.b
          have HLE := Lib.hid (show kds.length ≤ 300 by
            have h1 : (kds.map (·.x)).length ≤ (x.ks.take k).length := by rw [hm]; exact List.length_filter_le _ _
            rw [List.length_map, List.length_take] at h1
            omega)
          have HTL := Lib.hid (show ∀ k, (textM (x.ks.take k)).length ≤ 300000 from fun k => by
            have h2 : Tr.sms x.ks := by have := HSM.out.1; cases x; exact this.2.2.2.2.2
            have h1 := textM_len (x.ks.take k) (by
              rw [← List.take_append_drop k x.ks, sms_app] at h2
              exact h2.1)
            have h4 : (x.ks.take k).length ≤ 300 := by rw [List.length_take]; omega
            omega)
          clear hr hm
          by_cases hlt : k < x.ks.length
          · obtain ⟨y, hy⟩ : ∃ y, x.ks[k]? = some y := ⟨_, List.getElem?_eq_getElem hlt⟩
            obtain ⟨a, rfl, ya, yk, ⟨q0, q1, q2, q3⟩, hny⟩ := RdSl.elem (HKD.out w1 (Below.refl _ _)) hy
            have hc : ∀ {A : Addr} {u : Value}, w1.cell? A = some u → wr.cell? A = some u := fun h => (hbw.cell (World.block_lt_of_cell? w1 _ h)).trans h
            have q0 := hc q0
            have q1 := hc q1
            have q2 := hc q2
            have q3 := hc q3
            clear hc
            obtain ⟨s1, s2, s3, s4, rfl, rfl⟩ := node_cells hny
            have hkI : (k : Int) < (x.ks.length : Int) := by omega
            obtain ⟨wb, hwb⟩ : ∃ wb, wb = wr.alloc (.cells #[.string (str y.n), .slice s1 y.ats.length s2, .slice s3 y.ks.length s4, .string (str y.t)] 25) := ⟨_, rfl⟩
            have hbb : Below wr.heap.size wr wb := by rw [hwb]; exact (Below.refl _ _).alloc (Nat.le_refl _) _
            have hrow : wb.heap[wr.heap.size]? = some (.cells #[.string (str y.n), .slice s1 y.ats.length s2, .slice s3 y.ks.length s4, .string (str y.t)] 25 (0, 0)) := by rw [hwb]; exact heap_alloc_new wr _
            have r0 : wb.cell? ⟨wr.heap.size, 0, none⟩ = some (.string (str y.n)) := by rw [cell_of_row wb _ 0 _ _ (0, 0) hrow]; rfl
            have r1 : wb.cell? ⟨wr.heap.size, 1, none⟩ = some (.slice s1 y.ats.length s2) := by rw [cell_of_row wb _ 1 _ _ (0, 0) hrow]; rfl
            have r2 : wb.cell? ⟨wr.heap.size, 2, none⟩ = some (.slice s3 y.ks.length s4) := by rw [cell_of_row wb _ 2 _ _ (0, 0) hrow]; rfl
            have r3 : wb.cell? ⟨wr.heap.size, 3, none⟩ = some (.string (str y.t)) := by rw [cell_of_row wb _ 3 _ _ (0, 0) hrow]; rfl
            have HR := Lib.hid (HR0.out.below hbb)
            have hb1b : Below w1.heap.size w1 wb := hbw.trans (hbb.mono hbw.size)
            have HNY := Lib.hid (hny.frame (w' := wb) (F' := fun b => b < wb.heap.size ∧ v.ownBlock ≠ some b) (fun b hb => hb1b.block b hb) fun b hb => ⟨Nat.lt_of_lt_of_le hb hb1b.size, fun he => by have h1 := (HR0.out.own.lt b he).1; have h2 : b < w1.heap.size := hb; omega⟩)
            have HWB := Lib.hid hwb
            have HTK := Lib.hid (kids_snoc x.ks k y s hy)
            have HXK := Lib.hid (textM_take x.ks k y hy)
            have HTL2 := Lib.hid (And.intro (HTL.out k) (HTL.out (k + 1)))
            clear hy hbw hwb hbb hrow hny HR0 hb1b
            go_upto_region 16 with fail
            rw [← HWB.out]
            generalize wr.heap.size = Y at r0 r1 r2 r3 ⊢
            clear q0 q1 q2 q3
            by_cases hyn : y.n = []
            · have hE : (str y.n).toList.isEmpty = true := by rw [hyn]; kernel_rfl
              have hE2 : ((str y.n).toList == []) = true := by rw [hyn]; kernel_rfl
              have HN2 := Lib.hid (HTK.out.trans (by rw [if_neg (show ¬ isK y s = true by simp [isK, hyn])]))
              have hx3 := HXK.out
              rw [if_pos hyn] at hx3
              have HX2 := Lib.hid (show str (textM (x.ks.take k)) ++ str y.t = str (textM (x.ks.take (k + 1))) by rw [hx3, app_str])
              have hsz1 : (str (textM (x.ks.take k))).size + (str y.t).size ≤ 300000 := by
                have := HTL2.out.2
                rw [hx3, List.length_append] at this
                exact this
              clear hyn hx3
              generalize str (textM (x.ks.take k)) = TX at HX2 hsz1 ⊢
              generalize str y.t = TY at HX2 hsz1 r3 ⊢
              have hsz2 : ¬ (9223372036854775807 < TX.size + TY.size) := by omega
              have hsz3 : TX.size + TY.size ≤ 9223372036854775807 := by omega
              go_wp2_with fail
              go_roundw
              case rel => exact ⟨k + 1, _, by omega, by go_num, HR.out, by rw [HM.out, HN2.out, List.append_nil], by rw [HX2.out]⟩
              case measure => simp [intOf]; omega
            · have hE : (str y.n).toList.isEmpty = false := by
                rw [ByteArray.toList_eq, toList_str]
                cases hq : y.n with
                | nil => exact absurd hq hyn
                | cons c t => rfl
              have HX2 := Lib.hid (show textM (x.ks.take (k + 1)) = textM (x.ks.take k) by rw [HXK.out, if_neg hyn, List.append_nil])
              cases hys : ((str y.n).toList == s.toList) with
              | true =>
                have HN := Lib.hid (HTK.out.trans (by rw [if_pos (show isK y s = true by simp only [isK, hys]; simp [hyn])]))
                clear hyn
                go_wp2_with (at_builtin
                             refine appN ⟨y, .slice s1 y.ats.length s2, .slice s3 y.ks.length s4⟩ rfl _ _ rfl (by simp [Act.eval]) HR.out HNY.out rfl rfl (by simp [Act.eval]) (by have := HLE.out; omega) ?_)
                intro g6 c6 w6 hr6
                have HR6 := Lib.hid hr6
                clear hr6
                go_wp2_with fail
                go_roundw
                case rel => exact ⟨k + 1, _, by omega, by go_num, HR6.out, by rw [List.map_append, HM.out, HN.out]; rfl, by rw [HX2.out]⟩
                case measure => simp [intOf]; omega
              | false =>
                cases hse : (s.toList == []) with
                | true =>
                  have hse2 : s.toList.isEmpty = true := by simpa using hse
                  have HN := Lib.hid (HTK.out.trans (by rw [if_pos (show isK y s = true by simp only [isK, hse]; simp [hyn])]))
                  clear hyn
                  go_wp2_with (at_builtin
                               refine appN ⟨y, .slice s1 y.ats.length s2, .slice s3 y.ks.length s4⟩ rfl _ _ rfl (by simp [Act.eval]) HR.out HNY.out rfl rfl (by simp [Act.eval]) (by have := HLE.out; omega) ?_)
                  intro g6 c6 w6 hr6
                  have HR6 := Lib.hid hr6
                  clear hr6
                  go_wp2_with fail
                  go_roundw
                  case rel => exact ⟨k + 1, _, by omega, by go_num, HR6.out, by rw [List.map_append, HM.out, HN.out]; rfl, by rw [HX2.out]⟩
                  case measure => simp [intOf]; omega
                | false =>
                  have hse2 : s.toList.isEmpty = false := by simpa using hse
                  have HN := Lib.hid (HTK.out.trans (by rw [if_neg (show ¬ isK y s = true by simp only [isK, hse, hys]; simp)]))
                  clear hyn
                  go_wp2_with fail
                  go_roundw
                  case rel => exact ⟨k + 1, _, by omega, by go_num, HR.out, by rw [HM.out, HN.out, List.append_nil], by rw [HX2.out]⟩
                  case measure => simp [intOf]; omega
          · have hle : (x.ks.length : Int) ≤ k := by omega
            have HTK := Lib.hid (show x.ks.take k = x.ks from List.take_of_length_le (by omega))
            have hm := HM.out
            rw [HTK.out] at hm ⊢
            obtain ⟨p, c, rfl⟩ := own_shape HR0.out.own
            have hkd : kds.length ≤ 300 := HLE.out
            have hkdI : (kds.length : Int) ≤ 300 := by omega
            have HTX := Lib.hid (show (textM x.ks).length ≤ 300000 by have := HTL.out k; rw [HTK.out] at this; exact this)
            have HM9 := Lib.hid hm
            obtain ⟨x0, x1, x2, x3⟩ := HXC.out wr hbw
            have HBW := Lib.hid hbw
            clear hbw hm
            have HCK := Lib.hid (Kids_any x (.slice c1 x.ats.length c2) (.slice c3 x.ks.length c4) s wr HSM.out.1 (HN.out wr HBW.out))
            unfold nodeV at HCK
            go_upto_region 21 with fail
            go_wp2_with fail
            refine HCK.out.mono ?_
            rintro e w9 ⟨v9, kdg, rfl, hr9, hm9⟩
            have HL := Lib.hid (show kdg.map (·.x) = kds.map (·.x) by rw [hm9, HM9.out])
            have hlen : kdg.length = kds.length := by have := congrArg List.length HL.out; simpa using this
            obtain ⟨p9, c9, rfl⟩ := own_shape hr9.own
            rw [hlen]
            have HB9 := Lib.hid (HBW.out.trans (hr9.b.mono HBW.out.size))
            have HG9 := Lib.hid (show ∀ w', Below w9.heap.size w9 w' → RdSl 4 (NdAt w' (allF w')) (.slice p9 kds.length c9) (kds.map (·.x)) from fun w' hb => by
              have := RdSl.belowN hr9.rd hb (Nat.le_refl _)
              rw [HL.out, hlen] at this
              exact this)
            have HW9 := Lib.hid (show ∀ w', Below w9.heap.size w9 w' → RdSl 4 (NdAt w' (allF w')) (.slice p kds.length c) (kds.map (·.x)) from fun w' hb => (RdSl.belowN HR0.out.rd hr9.b (Nat.le_refl _)).belowN hb (Nat.le_refl _))
            clear hr9 hm9 x0 x1 x2 x3 HCK
            obtain ⟨x0, x1, x2, x3⟩ := HXC.out w9 HB9.out
            have HCT := Lib.hid (Text_any x (.slice c1 x.ats.length c2) (.slice c3 x.ks.length c4) w9 HSM.out.1 (HN.out w9 HB9.out) (HTT.out w9 HB9.out))
            have HCR := Lib.hid (fun w5 => refTrim_any (str (textM x.ks)) (by show (textM x.ks).length ≤ _; have := HTX.out; omega) w5)
            unfold nodeV at HCT
            generalize str (textM x.ks) = TX at HCT HCR ⊢
            have hAA : (A.toList == A.toList) = true := by simp
            go_upto_region 22 with fail
            cases Bv
            all_goals
              go_wp2_with (first
                | (go_at_call 17; refine HCT.out.mono ?_; rintro e w10 ⟨rfl, hb10⟩)
                | (go_at_call 18; refine (HCR.out w10).mono ?_; rintro e w11 ⟨r, rfl, hr11, rfl⟩; obtain rfl := trim_one hr11 (trimF_is TX)))
              have HB11 := Lib.hid hb10
              clear hb10 hr11 x0 x1 x2 x3 HCT HCR hAA
              go_loopw [102] (fun i wr => ∃ (k : Nat), k ≤ kds.length ∧ i = .int .i64 k ∧ Below w9.heap.size w9 wr) (fun i _ => kds.length - (intOf i).toNat)
              case atStart => exact ⟨0, by omega, rfl, HB11.out⟩
              case round =>
                obtain ⟨k2, hk2, rfl, hbr⟩ := hrel
                have HBR := Lib.hid hbr
                by_cases hlt2 : k2 < kds.length
                · obtain ⟨z, hz⟩ : ∃ z, (kds.map (·.x))[k2]? = some z := ⟨_, List.getElem?_eq_getElem (by rw [List.length_map]; exact hlt2)⟩
                  obtain ⟨a1, rfl, za, zk, ⟨q0, q1, q2, q3⟩, hnx⟩ := RdSl.elem (HG9.out _ hbr) hz
                  obtain ⟨b1, rfl, wa, wk, ⟨p0, p1, p2, p3⟩, hny⟩ := RdSl.elem (HW9.out _ hbr) hz
                  obtain ⟨s1, s2, s3, s4, rfl, rfl⟩ := node_cells hnx
                  obtain ⟨r1, r2, r3, r4, rfl, rfl⟩ := node_cells hny
                  have HCC := Lib.hid (refSame_any z z _ _ _ _ wr.drew (hnx.onto (Below.refl _ _).drew (Nat.le_refl _)) (hny.onto (Below.refl _ _).drew (Nat.le_refl _)))
                  rw [eqT_self] at HCC
                  unfold nodeV at HCC
                  have hkI2 : (k2 : Int) < (kds.length : Int) := by omega
                  clear hz hbr hnx hny
                  go_upto_region 27 with fail
                  go_region_law (first | (go_simp; go_at_call 13; refine HCC.out.mono ?_; rintro e w15 ⟨rfl, hb15⟩))
                  all_goals
                    clear p0 p1 p2 p3 q0 q1 q2 q3
                    have HB15 := Lib.hid ((HBR.out.drew).trans (hb15.mono HBR.out.size))
                    clear hb15
                    go_wp2
                    go_roundw
                    case rel => exact ⟨k2 + 1, by omega, by go_num, HB15.out⟩
                    case measure => simp [intOf]; omega
                · have hle2 : (kds.length : Int) ≤ k2 := by omega
                  have HBZ := Lib.hid (HB9.out.trans (HBR.out.mono HB9.out.size))
                  clear hbr
                  go_wp2_with (go_at_call 10; refine (lives03 _ (HTT.out _ HBZ.out)).mono ?_; rintro e w20 ⟨rfl, hb20⟩)
                  go_ret
                  exact ⟨rfl, (HUP.out _ HBZ.out).trans (hb20.mono (HUP.out _ HBZ.out).size)⟩
      · obtain ⟨j, rfl⟩ : ∃ j, m = j + 1 := ⟨m - 1, by omega⟩
        obtain ⟨p, hp⟩ : ∃ p, x.ats[j]? = some p := ⟨_, List.getElem?_eq_getElem (by omega)⟩
        obtain ⟨a, rfl, q0, q1⟩ := RdSl.elem HAT.out hp
        rw [show ((j + 1 : Nat) : Int) - 1 = (j : Int) by omega]
        have hjI : (j : Int) < (x.ats.length : Int) := by omega
        have hj1 : IntKind.i64.wrap ((j : Int) - 1) = (j : Int) - 1 := by rw [IntWalk.i64_in _ (by omega)]
        cases he : ((str p.1).toList == s.toList) with
        | true =>
          have HV := Lib.hid (attrV_yes hp he)
          clear hp
          go_wp2_with fail
          go_round
          case rel => exact ⟨j, by omega, rfl, by rw [HV.out], by rw [HV.out]⟩
          case measure => simp [intOf]
        | false =>
          have HV := Lib.hid (attrV_no hp he)
          clear hp
          go_wp2_with fail
          go_round
          case rel => exact ⟨j, by omega, rfl, by rw [HV.out], by rw [HV.out]⟩
          case measure => simp [intOf]


theorem laid_met_TreeAsks (os : Os) : laidMet Tryd.prog Rows.treeAsksRow.laid ((laidWorld #[.agg #[.string .empty, .slice none 0 0, .slice none 0 0, .string .empty], .string .empty] os).forCall (fun _ _ => 0) ⟨#[], #[.agg #[.string .empty, .slice none 0 0, .slice none 0 0, .string .empty], .string .empty], []⟩).memory :=
  laidMet_of_run' 8 (by kernel_rfl) (by kernel_rfl)
theorem reads_TreeAsks (os : Os) {H : Type} (enc : TypeId × Value → H) : ∃ places, DataW.whole enc Tryd.prog ((laidWorld #[.agg #[.string .empty, .slice none 0 0, .slice none 0 0, .string .empty], .string .empty] os).forCall (fun _ _ => 0) ⟨#[], #[.agg #[.string .empty, .slice none 0 0, .slice none 0 0, .string .empty], .string .empty], []⟩).memory Tryd.f5.params.toList Rows.treeAsksSpec.vars false (#[.agg #[.string .empty, .slice none 0 0, .slice none 0 0, .string .empty], .string .empty] : Array Value).toList 8 = some ([.agg [.lit (.string []), .nil, .nil, .lit (.string [])], .lit (.string [])], [], places) :=
  ⟨[], by kernel_rfl⟩
set_option maxRecDepth 100000 in
theorem lifted_TreeAsks (os : Os) (started : os.Started) (H : Type) (enc : TypeId × Value → H) (F : Stop.Interp) :
    ReturnsInHanded {} Tryd.checked os 5 .any ((OpenSpec.ofChange Rows.treeAsksSpec).preRow enc Tryd.prog Tryd.f5 Rows.treeAsksRow.domain false Rows.treeAsksRow.laid) (((OpenSpec.ofChange Rows.treeAsksSpec).at F).post enc Tryd.prog Tryd.f5 false true false false) := by
  obtain ⟨places, hx⟩ := reads_TreeAsks os enc
  refine returnsInHanded_of_row (C := Tryd.checked) (s := OpenSpec.ofChange Rows.treeAsksSpec) own_knob started (by kernel_rfl) Tryd.func5
    (witness_row_at (enc := enc) (C := Tryd.checked) false (laidWorld #[.agg #[.string .empty, .slice none 0 0, .slice none 0 0, .string .empty], .string .empty] os) #[.agg #[.string .empty, .slice none 0 0, .slice none 0 0, .string .empty], .string .empty] rfl (by kernel_rfl) (by kernel_rfl) (by kernel_rfl)
      (OpenSpec.preRow_of_cond 8 hx (by kernel_rfl) (fun k hk => by cases hk) (by kernel_rfl) (laid_met_TreeAsks os))) ?_
  intro W base args ds gs before hval0 hW _ _ _ hL hsh _
  have hU : Lib.Utf8Tabs 1 2 W :=
    utf8Tabs_of_reads (ρ := Tryd.lays260_ren) { Tryd.lays260 with } ⟨by kernel_rfl, by kernel_rfl, by kernel_rfl, by kernel_rfl, by kernel_rfl, by kernel_rfl, by kernel_rfl⟩ (Lib.laidMet.reads hL (.tail _ (.head _))) (Lib.laidMet.reads hL (.head _))
  have hval : ∀ (j : Nat) t v, Tryd.f5.params[j]? = some t → args[j]? = some v → Value.okWide Tryd.prog W .any base t v := hval0
  have hW' := hW
  obtain ⟨p, q, hA0, hV, rfl, _, _⟩ := hW
  have hA : DataW.TrodAll enc Tryd.prog W 0 (fun _ => true) true Tryd.f5.params.toList args.toList ds p := hA0
  rw [Tryd.params5] at hA hval
  obtain ⟨v0, vs0, d0, ds0, p0, q0, hargs, rfl, rfl, h0, r0⟩ := trodAll_cons hA
  obtain ⟨v1, vs1, d1, ds1, p1, q1, rfl, rfl, rfl, h1, r1⟩ := trodAll_cons r0
  obtain ⟨rfl, rfl, rfl⟩ := trodAll_nil r1
  obtain rfl : args = #[v0, v1] := by cases args; simp_all
  obtain ⟨rfl, rfl⟩ := trodVars_none hV
  obtain ⟨x0, va0, vk0, rfl, nd0⟩ := open_node (hval 0 25 v0 rfl rfl) h0
  obtain ⟨a1, rfl, rfl, rfl, w1⟩ := open_string Tryd.underlying9 (hval 1 9 v1 rfl rfl) h1
  clear hA0 hval0
  refine (walk_TreeAsks x0 va0 vk0 a1 (by unfold maxLen at w1; exact w1) W nd0 hU).mono fun e W' ⟨he, hb⟩ => ?_
  subst he
  exact ⟨_, rfl, law_post (by kernel_rfl) rfl rfl rfl hW' hb⟩
theorem said_TreeAsks : Rows.TreeAsksSaid :=
  OpenClaim.holds_of_cond 5 Tryd.f5 rfl rfl rfl rfl rfl rfl rfl ⟨rfl, rfl, rfl, rfl, rfl⟩ rfl rfl rfl rfl rfl (by kernel_rfl) Tryd.func5 (by kernel_rfl)
    (of_decide_eq_true (by kernel_rfl)) (by unfold Func.isWrapper; first | (rw [if_pos (by decide +kernel)]; kernel_rfl) | (rw [if_neg (by decide +kernel)]; exact ⟨rfl, rfl⟩))
    (fun os started H enc _ F => by rw [OpenClaim.pre_eq_preRow]; exact lifted_TreeAsks os started H enc F)
set_option maxRecDepth 100000 in
theorem plain_TreeAsks (f : FuncId) (fn : Func) (hf : Tryd.pinned.checked.prog.funcNamed "pomace/pomacelaw03.TreeAsks" = some f) (hfn : Tryd.pinned.checked.prog.funcs[f]? = some fn) :
    true = Tryd.pinned.checked.prog.looks [] ∧ ∀ (j : Nat) t, fn.params[j]? = some t → Tryd.pinned.checked.prog.wantsStandIn t = false := by
  obtain rfl : f = 5 := Option.some.inj ((show Tryd.prog.funcNamed "pomace/pomacelaw03.TreeAsks" = some 5 by kernel_rfl).symm.trans hf) |>.symm
  obtain rfl : fn = Tryd.f5 := (Option.some.inj (Tryd.func5.symm.trans hfn)).symm
  refine ⟨by kernel_rfl, fun j t ht => ?_⟩
  rw [Tryd.params5] at ht
  have h := Array.mem_of_getElem? ht
  simp only [List.mem_toArray, List.mem_cons, List.not_mem_nil, or_false] at h
  rcases h with rfl | rfl
  all_goals first
    | exact (show Tryd.prog.wantsStandIn 25 = false by kernel_rfl)
    | exact (show Tryd.prog.wantsStandIn 9 = false by kernel_rfl)

/-- the statement of TreeAsks: its card -/
theorem proved_TreeAsks : Rows.TreeAsksCardSaid :=
  Claim7.holds_tied_plain_at .later [] _ _ _ _ said_TreeAsks (fun _ h => by cases h) (by kernel_rfl) (fun _ h => by cases h) treeAsks_row_tie rfl ⟨rfl, rfl⟩ (by kernel_rfl) rfl plain_TreeAsks (by kernel_rfl)
end Go.Proofs.YtpbkidmdfibaoaaDoor
