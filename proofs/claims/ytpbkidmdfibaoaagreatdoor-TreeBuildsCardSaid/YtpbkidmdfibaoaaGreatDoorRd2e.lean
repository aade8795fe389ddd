/-
  Layer 2: contract of the reader's method letters. Own work.
-/
import Derived.Test.YtpbkidmdfibaoaaGreatDoorRd2d
namespace Go.Proofs.YtpbkidmdfibaoaaGreatDoor
set_option linter.unusedVariables false
set_option linter.unusedSimpArgs false
open Go.RowKit

theorem let_ref {stop c : UInt8} {opn : Bool} {f : Nat} {acc r : List UInt8} {x : ByteArray} {n y : Nat} (h : c ≠ stop) (h38 : c = 38) (hr : refS (c :: r) = (x, n, y)) :
    letM stop opn (f + 1) acc (c :: r) = if y = 0 then letM stop opn f (acc ++ x.data.toList) ((c :: r).drop n) else .bad (errno y) (c :: r) := by
  rw [letM, if_neg h, if_pos h38]
  rw [hr]
  cases y with
  | zero => rfl
  | succ y => rfl
theorem let_stop {stop : UInt8} {opn : Bool} {f : Nat} {acc r : List UInt8} : letM stop opn (f + 1) acc (stop :: r) = .ok acc (stop :: r) := by rw [letM, if_pos rfl]
set_option maxRecDepth 100000 in
set_option maxHeartbeats 8000000 in
theorem letters_at (X : Nat) (l r : List UInt8) (stop : UInt8) (opn : Bool) (hl : l.length ≤ 1000000) (w : World) (h : RT w X l r) :
    Calls Tryz.prog 80 #[.pointer (some ⟨X, 0, none⟩), .int .u8 (stop.toNat : Int), .bool opn] w (RsP X l (letM stop opn (r.length + 1) [] r) (fun t => .string (str t)) w) := by
  have hXB := h.lt
  have hll := suf_len h.1
  have HXB := Lib.hid hXB
  have HLL := Lib.hid hll
  have hba : Below w.heap.size w (w.alloc (.cells #[.pointer none, .slice none 0 0] 89)) := (Below.refl _ _).alloc (Nat.le_refl _) _
  have hnew := heap_alloc_new w (.cells #[.pointer none, .slice none 0 0] 89)
  have hbd : Bld w.heap.size w.heap.size [] (w.alloc (.cells #[.pointer none, .slice none 0 0] 89)) := .inl ⟨Nat.le_refl _, _, hnew, World.ownsRow_nil _ _ _ _, by simp [Value.ownBlock]⟩
  have hr1 := h.below hba
  have HF1 := Lib.hid (FrX.ofBelow (X := X) hba)
  have hs1 : w.heap.size ≤ (w.alloc (.cells #[.pointer none, .slice none 0 0] 89)).heap.size := hba.size
  clear h hba hnew hXB hll
  go_enter Tryz.func80, Tryz.ntmps80
  go_wp2_with fail
  generalize w.alloc (.cells #[.pointer none, .slice none 0 0] 89) = w1 at hbd hr1 HF1 hs1 ⊢
  have HBD1 := Lib.hid hbd
  have HR1 := Lib.hid hr1
  clear hbd hr1 hs1
  obtain ⟨B, hBe⟩ : ∃ B, B = w.heap.size := ⟨_, rfl⟩
  rw [← hBe] at HXB HBD1 HF1 ⊢
  have HBE := Lib.hid hBe
  clear hBe
  go_loopw [] (fun wr => ∃ acc r' f, r'.length < f ∧ letM stop opn f acc r' = letM stop opn (r.length + 1) [] r ∧ acc.length + 4 * r'.length ≤ 4 * r.length ∧ RT wr X l r' ∧ Bld B B acc wr ∧ FrX B X w wr) (fun wr => l.length - offW X wr)
  case atStart => exact ⟨[], r, r.length + 1, by omega, rfl, by simp, HR1.out, HBD1.out, HF1.out⟩
  case round =>
    obtain ⟨acc, r', f, hf, hmod, hacc, hrt, hbd, hfr⟩ := hrel
    have HMOD := Lib.hid hmod
    have HACC := Lib.hid hacc
    have HRT := Lib.hid hrt
    have HBD := Lib.hid hbd
    have HFR := Lib.hid hfr
    have hBs : B ≤ wr.heap.size := by rw [HBE.out]; exact hfr.size
    have HBS := Lib.hid hBs
    obtain ⟨g, hg⟩ : ∃ g, f = g + 1 := ⟨f - 1, by omega⟩
    subst hg
    have HG := Lib.hid hf
    clear hmod hacc hrt hbd hfr hBs hf
    cases r' with
    | nil =>
      cases opn
      case false =>
        have HFIN := Lib.hid (show letM stop false (r.length + 1) [] r = .bad 13 [] by rw [← HMOD.out]; rfl)
        have HP := Lib.hid (peek_end X l wr HRT.out)
        go_wp2_with fail
        refine HP.out.mono ?_
        rintro e w3 ⟨rfl, hm⟩
        have HM := Lib.hid hm.1
        have HF3 := Lib.hid (HFR.out.trans (FrX.ofMv (B := B) hm HBS.out))
        clear hm
        go_wp2
        refine ⟨rfl, ?_⟩
        rw [HFIN.out]
        exact ⟨rfl, HM.out, (HBE.out ▸ HF3.out : FrX w.heap.size X w w3).grown⟩
      case true =>
        have HFIN := Lib.hid (show letM stop true (r.length + 1) [] r = .ok acc [] by rw [← HMOD.out]; rfl)
        have HE := Lib.hid (ended_at X l [] wr HRT.out)
        go_wp2_with fail
        refine HE.out.mono ?_
        rintro e w3 ⟨rfl, hm⟩
        have HM := Lib.hid hm.1
        have HB3 := Lib.hid (HBD.out.kept hm.2 HXB.out)
        have HF3 := Lib.hid (HFR.out.trans (FrX.ofMv (B := B) hm HBS.out))
        have hs3 : B ≤ w3.heap.size := by rw [HBE.out]; exact HF3.out.size
        have HST := Lib.hid (Tryz.Builder_String_any B B _ _ HB3.out hs3)
        clear hm hs3
        dsimp only [List.isEmpty]
        go_wp2_with fail
        refine HST.out.mono ?_
        rintro e w4 ⟨rfl, hb4⟩
        have HM4 := Lib.hid (HM.out.belowB hb4 HXB.out)
        have HF4 := Lib.hid (HF3.out.trans (FrX.ofBelow (X := X) hb4))
        clear hb4
        go_wp2
        go_ret
        rw [HFIN.out]
        exact ⟨rfl, HM4.out, (HBE.out ▸ HF4.out : FrX w.heap.size X w w4).grown⟩
    | cons c r' =>
      go_upto_region 2 with fail
      go_cut [20] from 9 to 41 (fun t wx => t = .bool ((c.toNat : Int) != (stop.toNat : Int)) ∧ Mv X l (c :: r') wr wx)
      case first =>
        cases opn
        case false =>
          have HP := Lib.hid (peek_at X l r' c wr HRT.out)
          go_wp2_with fail
          refine HP.out.mono ?_
          rintro e w3 ⟨rfl, hm⟩
          have HM := Lib.hid hm
          clear hm
          go_wp2_with fail
          go_meet
          exact ⟨rfl, HM.out⟩
        case true =>
          have HE := Lib.hid (ended_at X l (c :: r') wr HRT.out)
          go_wp2_with fail
          refine HE.out.mono ?_
          rintro e w3 ⟨rfl, hm⟩
          have HM := Lib.hid hm
          have HP := Lib.hid (peek_at X l r' c w3 hm.1)
          clear hm
          dsimp only [List.isEmpty]
          go_wp2_with fail
          refine HP.out.mono ?_
          rintro e w4 ⟨rfl, hm⟩
          have HM4 := Lib.hid (HM.out.trans hm)
          clear hm
          go_wp2_with fail
          go_meet
          exact ⟨rfl, HM4.out⟩
      case rest =>
        obtain ⟨rfl, hmc⟩ := hcut
        have HMC := Lib.hid hmc
        have HBC := Lib.hid (HBD.out.kept hmc.2 HXB.out)
        have HFC := Lib.hid (HFR.out.trans (FrX.ofMv (B := B) hmc HBS.out))
        have HSC := Lib.hid (show B ≤ wc.heap.size by rw [HBE.out]; exact HFC.out.size)
        clear hmc
        by_cases hst : c = stop
        · have hne : ((c.toNat : Int) != (stop.toNat : Int)) = false := by rw [hst]; simp
          have HFIN := Lib.hid (show letM stop opn (r.length + 1) [] r = .ok acc (c :: r') by rw [← HMOD.out, hst]; exact let_stop)
          have HST := Lib.hid (Tryz.Builder_String_any B B _ _ HBC.out HSC.out)
          clear hst
          rw [hne]
          go_wp2_with fail
          refine HST.out.mono ?_
          rintro e w4 ⟨rfl, hb4⟩
          have HM4 := Lib.hid (HMC.out.1.belowB hb4 HXB.out)
          have HF4 := Lib.hid (HFC.out.trans (FrX.ofBelow (X := X) hb4))
          clear hb4
          go_wp2
          go_ret
          rw [HFIN.out]
          exact ⟨rfl, HM4.out, (HBE.out ▸ HF4.out : FrX w.heap.size X w w4).grown⟩
        have hne : ((c.toNat : Int) != (stop.toNat : Int)) = true := by
          rw [bne_iff_ne]
          intro h
          exact hst (UInt8.toNat_inj.1 (by omega))
        have HNS := Lib.hid hst
        rw [hne]
        clear hne hst
        have HP := Lib.hid (peek_at X l r' c wc HMC.out.1)
        go_wp2_with fail
        refine HP.out.mono ?_
        rintro e w4 ⟨rfl, hm4⟩
        have HM4 := Lib.hid hm4.1
        have HB4 := Lib.hid (HBC.out.kept hm4.2 HXB.out)
        have HF4 := Lib.hid (HFC.out.trans (FrX.ofMv (B := B) hm4 HSC.out))
        have HS4 := Lib.hid (show B ≤ w4.heap.size by rw [HBE.out]; exact HF4.out.size)
        have hll4 := suf_len hm4.1.1
        have HLL4 := Lib.hid hll4
        have HACL := Lib.hid (show acc.length ≤ 10000000 by have h2 := HACC.out; have h3 := HLL.out; omega)
        clear hm4 HP hll4
        by_cases h38 : c = 38
        · have h38b : ((c.toNat : Int) == 38) = true := by rw [h38]; rfl
          have HR := Lib.hid (reference_at X B B l (c :: r') acc hl HXB.out (by have := HACL.out; omega) w4 HS4.out HM4.out HB4.out)
          obtain ⟨⟨x, n, y⟩, hxy⟩ : ∃ z, refS (c :: r') = z := ⟨_, rfl⟩
          have HXY := Lib.hid hxy
          have HMM := Lib.hid (show letM stop opn (r.length + 1) [] r = if y = 0 then letM stop opn g (acc ++ x.data.toList) ((c :: r').drop n) else .bad (errno y) (c :: r') by rw [← HMOD.out]; exact let_ref HNS.out h38 hxy)
          clear h38
          unfold RefQ at HR
          rw [hxy] at HR
          by_cases h0 : y = 0
          · subst h0
            obtain ⟨hn, hn1, hx4⟩ := refS_small hxy
            have HNX := Lib.hid (show letM stop opn g (acc ++ x.data.toList) ((c :: r').drop n) = letM stop opn (r.length + 1) [] r by rw [HMM.out, if_pos rfl])
            have HLEN := Lib.hid (show ((c :: r').drop n).length < g ∧ (acc ++ x.data.toList).length + 4 * ((c :: r').drop n).length ≤ 4 * r.length by
              have h1 := HG.out
              have h2 := HACC.out
              have h3 : x.data.toList.length = x.size := by simp
              simp only [List.length_drop, List.length_append, List.length_cons] at h1 h2 ⊢
              omega)
            have HN1 := Lib.hid (show 1 ≤ n ∧ n ≤ (c :: r').length from ⟨hn1, hn⟩)
            clear hxy hn hn1 hx4 HMM
            go_wp2_with fail
            refine HR.out.mono ?_
            rintro e w5 ⟨rfl, hr5, hb5, hf5⟩
            have HR5 := Lib.hid hr5
            have HB5 := Lib.hid hb5
            have HF5 := Lib.hid (HF4.out.trans hf5)
            have HO := Lib.hid (show l.length - offW X w5 < l.length - offW X wr by
              rw [hr5.off, HRT.out.off]
              have h1 := HLL4.out
              have h2 := HN1.out
              simp only [List.length_drop, List.length_cons] at h1 h2 ⊢
              omega)
            clear hr5 hb5 hf5 HR
            go_wp2
            go_roundw
            case rel => exact ⟨acc ++ x.data.toList, (c :: r').drop n, g, HLEN.out.1, HNX.out, HLEN.out.2, HR5.out, HB5.out, HF5.out⟩
            case measure => exact HO.out
          · have HFIN := Lib.hid (show letM stop opn (r.length + 1) [] r = .bad (errno y) (c :: r') by
              rw [HMM.out, if_neg h0])
            have HRB := Lib.hid (show Calls Tryz.prog 97 #[.pointer (some ⟨X, 0, none⟩), .pointer (some ⟨B, 0, none⟩)] w4 (fun e w' => e = bad2 (errno y) l (c :: r') ∧ RT w' X l (c :: r') ∧ FrX B X w4 w') from HR.out.mono (fun e w' hh => by
              split at hh
              · next heq => simp only [Prod.mk.injEq] at heq; exact absurd heq.2.2 h0
              · next y' _ heq => simp only [Prod.mk.injEq] at heq; rw [heq.2.2]; exact hh))
            clear hxy h0 HMM HR
            go_wp2_with fail
            refine HRB.out.mono ?_
            rintro e w5 ⟨rfl, hr5, hf5⟩
            have HR5 := Lib.hid hr5
            have HF5 := Lib.hid (HF4.out.trans hf5)
            clear hr5 hf5
            go_wp2
            refine ⟨rfl, ?_⟩
            rw [HFIN.out]
            exact ⟨rfl, HR5.out, (HBE.out ▸ HF5.out : FrX w.heap.size X w _).grown⟩
        · have h38b : ((c.toNat : Int) == 38) = false := by
            rw [beq_eq_false_iff_ne]
            intro h
            exact h38 (UInt8.toNat_inj.1 (by simpa using (show c.toNat = 38 by omega)))
          have HMM := Lib.hid (show letM stop opn (r.length + 1) [] r = if c = 60 || !(tx c) then .bad 10 (c :: r') else letM stop opn g (acc ++ [c]) r' by rw [← HMOD.out]; rw [letM, if_neg HNS.out, if_neg h38])
          clear h38
          by_cases h60 : c = 60
          · have h60b : ((c.toNat : Int) == 60) = true := by rw [h60]; rfl
            have HFIN := Lib.hid (show letM stop opn (r.length + 1) [] r = .bad 10 (c :: r') by rw [HMM.out, if_pos (by simp [h60])])
            have HF := Lib.hid (fail_at X l (c :: r') 10 w4 HM4.out)
            clear h60
            go_wp2_with fail
            refine HF.out.mono ?_
            rintro e w5 ⟨rfl, rfl⟩
            go_wp2
            refine ⟨rfl, ?_⟩
            rw [HFIN.out]
            exact ⟨rfl, HM4.out, (HBE.out ▸ HF4.out : FrX w.heap.size X w _).grown⟩
          · have h60b : ((c.toNat : Int) == 60) = false := by
              rw [beq_eq_false_iff_ne]
              intro h
              exact h60 (UInt8.toNat_inj.1 (by simpa using (show c.toNat = 60 by omega)))
            have HT := Lib.hid (IsText_any (c.toNat : Int) w4)
            have HMM2 := Lib.hid (show letM stop opn (r.length + 1) [] r = if tx c then letM stop opn g (acc ++ [c]) r' else .bad 10 (c :: r') by
              rw [HMM.out]
              cases htc : tx c <;> simp [h60])
            clear h60 HMM
            go_wp2_with fail
            refine HT.out.mono ?_
            rintro e w5 ⟨rfl, hw5⟩
            obtain rfl : w4 = w5 := hw5.symm
            generalize htx : isText (c.toNat : Int) = t
            have HTX := Lib.hid htx
            clear htx HT
            cases t
            case false =>
              have HFIN := Lib.hid (show letM stop opn (r.length + 1) [] r = .bad 10 (c :: r') by rw [HMM2.out, if_neg (by rw [show tx c = false from HTX.out]; simp)])
              have HF := Lib.hid (fail_at X l (c :: r') 10 w4 HM4.out)
              go_wp2_with fail
              refine HF.out.mono ?_
              rintro e w5 ⟨rfl, rfl⟩
              go_wp2
              refine ⟨rfl, ?_⟩
              rw [HFIN.out]
              exact ⟨rfl, HM4.out, (HBE.out ▸ HF4.out : FrX w.heap.size X w _).grown⟩
            case true =>
              have HNX := Lib.hid (show letM stop opn g (acc ++ [c]) r' = letM stop opn (r.length + 1) [] r by rw [HMM2.out, if_pos (show tx c = true from HTX.out)])
              have HWB := Lib.hid (bu_writeByte B B acc c w4 HB4.out (by have := HACL.out; omega) HS4.out)
              go_wp2_with fail
              refine HWB.out.mono ?_
              rintro e w5 ⟨rfl, hb5, hbl5⟩
              have HB5 := Lib.hid hb5
              have HR5 := Lib.hid (HM4.out.belowB hbl5 HXB.out)
              have HF5 := Lib.hid (HF4.out.trans (FrX.ofBelow (X := X) hbl5))
              have HS5 := Lib.hid (show B ≤ w5.heap.size by rw [HBE.out]; exact HF5.out.size)
              have HK := Lib.hid (skip_at X l (c :: r') 1 (by simp) hl w5 HR5.out)
              clear hb5 hbl5 HWB
              go_wp2_with fail
              refine HK.out.mono ?_
              rintro e w6 ⟨rfl, hm6⟩
              have HR6 := Lib.hid (show RT w6 X l r' from hm6.1)
              have HB6 := Lib.hid (HB5.out.kept hm6.2 HXB.out)
              have HF6 := Lib.hid (HF5.out.trans (FrX.ofMv (B := B) hm6 HS5.out))
              have HO := Lib.hid (show l.length - offW X w6 < l.length - offW X wr by
                rw [HR6.out.off, HRT.out.off]
                have h1 := HLL4.out
                simp only [List.length_cons] at h1 ⊢
                omega)
              have HLEN := Lib.hid (show r'.length < g ∧ (acc ++ [c]).length + 4 * r'.length ≤ 4 * r.length by
                have h1 := HG.out
                have h2 := HACC.out
                simp only [List.length_append, List.length_cons, List.length_nil] at h1 h2 ⊢
                omega)
              clear hm6 HK
              go_wp2
              go_roundw
              case rel => exact ⟨acc ++ [c], r', g, HLEN.out.1, HNX.out, HLEN.out.2, HR6.out, HB6.out, HF6.out⟩
              case measure => exact HO.out
end Go.Proofs.YtpbkidmdfibaoaaGreatDoor
