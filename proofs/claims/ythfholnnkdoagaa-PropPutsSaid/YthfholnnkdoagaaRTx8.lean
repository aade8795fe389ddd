/-
  Layer 8: the answer's text. Own work.
-/
import Derived.Test.YthfholnnkdoagaaTr8
namespace Go.Proofs.Ythfholnnkdoagaa
set_option linter.unusedVariables false
set_option linter.unusedSimpArgs false
open Go.RowKit

theorem at_num (L : List Pp) (n : List UInt8) : atI (prs L) (str n) = match numF L (str n) with | some i => (i : Int) | none => -1 := by
  unfold atI
  have : (prs L).findIdx? (fun p => eqS p.n (str n)) = numF L (str n) := by
    unfold numF prs
    rw [List.findIdx?_map]
    rfl
  rw [this]
  cases numF L (str n) <;> rfl
theorem at_none {L : List Pp} {n : List UInt8} (h : getM L n = none) : atI (prs L) (str n) = -1 := by rw [at_num, num_none h]
theorem at_some {L : List Pp} {n v : List UInt8} (h : getM L n = some v) : ∃ i : Nat, atI (prs L) (str n) = (i : Int) ∧ L[i]? = some (n, v) := by
  obtain ⟨i, h1, h2⟩ := num_some h
  exact ⟨i, by rw [at_num, h1], h2⟩
def RValC (B R : Nat) (L : List Pp) (vL : Value) (k : Nat) (way : List (List UInt8)) : Prop :=
  ∀ (D : List Pp) (nm : List UInt8) (vd vo : Value) (w : World) (n v : List UInt8), getM L n = some v → Q8 L way D → RT8 B R L vL 0 nm way D vd vo w →
    Calls Try.prog 41 #[.pointer (some ⟨R, 0, none⟩), .string (str n)] w (RP B R L vL nm way vd vo (valueM8 L k way n D) w)
theorem cat_str (a b : List UInt8) : str a ++ str b = str (a ++ b) := by
  apply ByteArray.ext
  apply Array.ext'
  simp [str, ByteArray.data_append]
/-- on the way through a text -/
inductive TxI (B R : Nat) (L : List Pp) (vL : Value) (nm0 : List UInt8) (k : Nat) (way : List (List UInt8)) (owner s : List UInt8) (vd0 vo0 : Value) (RES : Xp) (w0 : World) (r out : List UInt8) (w : World) : Prop where
  | go (D : List Pp) (vd vo : Value) (h : RT8 B R L vL 0 nm0 way D vd vo w) (m : Mw R vd0 vo0 w0 w vd vo) (q : Q8 L way D) (l : out.length ≤ 4096)
      (e : RES = textM8 (fun m D' => valueM8 L k way m D') (fun m => (getM L m).isSome) owner (r.length + 1) out r D) : TxI B R L vL nm0 k way owner s vd0 vo0 RES w0 r out w
  | stop (er : Int) (n : List UInt8) (D : List Pp) (ways : List (List UInt8)) (vd vo : Value) (h : RT8 B R L vL er n ways D vd vo w) (m : Mw R vd0 vo0 w0 w vd vo) (z : er ≠ 0) (e : RES = .bad er n D) : TxI B R L vL nm0 k way owner s vd0 vo0 RES w0 r out w
set_option maxHeartbeats 8000000 in
set_option maxRecDepth 100000 in
theorem rtext8_any (B R : Nat) (L : List Pp) (vL : Value) (k : Nat) (way : List (List UInt8)) (HV : RValC B R L vL k way)
    (D : List Pp) (nm0 : List UInt8) (vd vo : Value) (w : World) (s owner : List UInt8) (hs : s.length ≤ 100000) (hq : Q8 L way D) (ht : RT8 B R L vL 0 nm0 way D vd vo w) :
    Calls Try.prog 37 #[.pointer (some ⟨R, 0, none⟩), .string (str s), .string (str owner)] w
      (RP B R L vL nm0 way vd vo (textM8 (fun m D' => valueM8 L k way m D') (fun m => (getM L m).isSome) owner (s.length + 1) [] s D) w) := by
  generalize hX : textM8 (fun m D' => valueM8 L k way m D') (fun m => (getM L m).isSome) owner (s.length + 1) [] s D = RES
  have HI := Lib.hid (show TxI B R L vL nm0 k way owner s vd vo RES w s [] w from .go D vd vo ht (Mw.refl _ _ _ _) hq (by simp) hX.symm)
  have HVV := Lib.hid HV
  clear hX ht hq HV
  go_enter Try.func37, Try.ntmps37
  go_wp2_with fail
  go_loopw [1, 7] (fun t1 t7 wr => ∃ (r out : List UInt8), t1 = .string (str r) ∧ t7 = .string (str out) ∧ r.length ≤ s.length ∧ out.length ≤ 300000 ∧ TxI B R L vL nm0 k way owner s vd vo RES w r out wr) (fun t1 _ _ => txtLen t1)
  case atStart => exact ⟨s, [], rfl, rfl, Nat.le_refl _, by simp, HI.out⟩
  case round =>
    obtain ⟨r, out, rfl, rfl, hr, hout0, hi⟩ := hrel
    clear HI
    cases hi with
    | stop er n D2 ways vd2 vo2 h m z e =>
      have c2 : wr.cell? ⟨R, 2, none⟩ = some (.int .i64 er) := by rw [cell_of_row _ _ 2 _ _ (0, 0) h.tab]; rfl
      have HF := Lib.hid (show RP B R L vL nm0 way vd vo RES w (.returned (.string (str []))) wr from by rw [e]; exact ⟨z, [], ways, vd2, vo2, rfl, by simp, h, m⟩)
      have hz : (er == 0) = false := by rw [beq_eq_false_iff_ne]; exact z
      clear h m e hout0
      go_wp2
      go_ret
      exact HF.out
    | go D2 vd2 vo2 h m q l e =>
      have c2 : wr.cell? ⟨R, 2, none⟩ = some (.int .i64 0) := by rw [cell_of_row _ _ 2 _ _ (0, 0) h.tab]; rfl
      have HR := Lib.hid (ref8_any r (by omega) wr)
      have HH := Lib.hid h
      have HM := Lib.hid m
      have HQ := Lib.hid q
      have HE := Lib.hid e
      clear h m q e
      go_wp2_with fail
      refine HR.out.mono ?_
      rintro e w2 ⟨⟨nn, rfl⟩, hq⟩
      have hbd := drewN_below (Below.refl wr.heap.size wr) nn
      have HH2 := Lib.hid (HH.out.far hbd)
      have HM2 := Lib.hid (HM.out.trans (Mw.of_below hbd))
      generalize wr.drewN nn = w2 at HH2 HM2 ⊢
      clear c2 HH HM hbd HR
      cases hrf : refM8 r with
      | none =>
        rw [hrf] at hq
        dsimp only at hq
        subst hq
        rw [text_end hrf] at HE
        have hcat := cat_str out r
        have hsz1 : (str (out ++ r)).size = out.length + r.length := by rw [size_str, List.length_append]
        have hx1 : ¬ 9223372036854775807 < (str out).size + (str r).size := by rw [size_str, size_str]; omega
        clear hrf
        by_cases hsm : 4096 < out.length + r.length
        · have hI : (4096 : Int) < ((str (out ++ r)).size : Int) := by rw [hsz1]; omega
          rw [addM_no hsm] at HE
          have HFL := Lib.hid (fail8_any HH2.out 2 owner)
          clear hsz1
          go_wp2_with fail
          refine HFL.out.mono ?_
          rintro e w3 ⟨rfl, h3, m3⟩
          have HF := Lib.hid (show RP B R L vL nm0 way vd vo RES w (.returned (.string (str (out ++ r)))) w3 from by rw [HE.out]; exact ⟨by decide, out ++ r, way, vd2, vo2, rfl, by rw [List.length_append]; omega, h3, HM2.out.trans m3⟩)
          clear h3 m3 HFL
          go_wp2
          go_ret
          exact HF.out
        · have hI : ¬ (4096 : Int) < ((str (out ++ r)).size : Int) := by rw [hsz1]; omega
          rw [addM_yes hsm] at HE
          have HF := Lib.hid (show RP B R L vL nm0 way vd vo RES w (.returned (.string (str (out ++ r)))) w2 from by rw [HE.out]; exact ⟨rfl, vd2, vo2, HH2.out, HM2.out⟩)
          clear hsz1
          go_wp2
          go_ret
          exact HF.out
      | some p =>
        obtain ⟨a, n, rest⟩ := p
        rw [hrf] at hq
        dsimp only at hq
        subst hq
        have hlen := ref_len hrf
        have hrest := ref_rest hrf
        have hra := (ref_is hrf).1
        rw [text_at hrf] at HE
        clear hrf
        obtain ⟨la, hla⟩ : ∃ v, v = a.length := ⟨_, rfl⟩
        obtain ⟨ln, hln⟩ : ∃ v, v = n.length := ⟨_, rfl⟩
        have hta : r.take la = a := by rw [hra, hla, List.take_left' rfl]
        rw [← hla, ← hln] at hlen hrest
        rw [← hla]
        have hszn : (str n).size = ln := by rw [hln]; exact size_str n
        have hszr : (str r).size = r.length := size_str r
        have h1 : IntKind.i64.wrap ((la : Int) + (ln : Int)) = (la : Int) + (ln : Int) := by rw [IntWalk.i64_in _ (by omega)]
        have h2 : IntKind.i64.wrap ((la : Int) + (ln : Int) + 3) = (la : Int) + (ln : Int) + 3 := by rw [IntWalk.i64_in _ (by omega)]
        have hle : (la : Int) + (ln : Int) + 3 ≤ ((str r).size : Int) := by rw [hszr]; omega
        have hle2 : (la : Int) ≤ ((str r).size : Int) := by rw [hszr]; omega
        have hsl : ∀ w, (Instr.slice 9 (.string (str r)) (some (.int .i64 ((la : Int) + (ln : Int) + 3))) none none).run Try.prog w = .ok (.string (str rest)) w := fun w => by
          rw [run_slice_string_from_if w 9 (str r) _ _ Try.underlying9, if_pos ⟨by omega, hle⟩]
          rw [show ((la : Int) + (ln : Int) + 3).toNat = la + ln + 3 by omega, ext_str, show (str r).data.toList = r by simp [str], hszr, List.take_of_length_le (Nat.le_refl _), hrest]
        have hex : (str r).extract 0 la = str a := by rw [ext_str, show (str r).data.toList = r by simp [str], List.drop_zero, hta]
        have hcat := cat_str out a
        have hx1 : ¬ 9223372036854775807 < (str out).size + (str a).size := by rw [size_str, size_str]; omega
        have hsz1 : (str (out ++ a)).size = out.length + a.length := by rw [size_str, List.length_append]
        have hrl : rest.length < r.length := by omega
        have hal : out.length + a.length ≤ 300000 := by omega
        have hanl : (asIs n).length ≤ 100003 := by simp [asIs]; omega
        clear hra hrest hta hla hln
        by_cases hsm : 4096 < out.length + a.length
        · have hI : (4096 : Int) < ((str (out ++ a)).size : Int) := by rw [hsz1]; omega
          rw [addM_no hsm] at HE
          have HFL := Lib.hid (fail8_any HH2.out 2 owner)
          clear hsz1
          go_wp2_with fail
          refine HFL.out.mono ?_
          rintro e w3 ⟨rfl, h3, m3⟩
          have HF := Lib.hid (show RP B R L vL nm0 way vd vo RES w (.returned (.string (str []))) w3 from by rw [HE.out]; exact ⟨by decide, [], way, vd2, vo2, rfl, by simp, h3, HM2.out.trans m3⟩)
          clear h3 m3 HFL
          go_wp2
          go_ret
          exact HF.out
        · have hI : ¬ (4096 : Int) < ((str (out ++ a)).size : Int) := by rw [hsz1]; omega
          rw [addM_yes hsm] at HE
          have ho2 : (out ++ a).length ≤ 4096 := by rw [List.length_append]; omega
          have HAT := Lib.hid (fun w' (h : RT8 B R L vL 0 nm0 way D2 vd2 vo2 w') => At_any (prs L) (str n) vL w' (RdPs.of_own h.l))
          have c0 : w2.cell? ⟨R, 0, none⟩ = some vL := by rw [cell_of_row _ _ 0 _ _ (0, 0) HH2.out.tab]; rfl
          clear hsz1
          go_upto_region 14 with fail
          generalize out ++ a = out2 at HE hcat hI ho2 ⊢
          clear hcat hx1 hI
          go_wp2_with fail
          refine (HAT.out w2 HH2.out).mono ?_
          rintro e w3 ⟨rfl, hb3⟩
          have HH3 := Lib.hid (HH2.out.far hb3)
          have HM3 := Lib.hid (HM2.out.trans (Mw.of_below hb3))
          have c2 : w3.cell? ⟨R, 2, none⟩ = some (.int .i64 0) := by rw [cell_of_row _ _ 2 _ _ (0, 0) HH3.out.tab]; rfl
          clear hb3 c0 HAT HH2 HM2
          cases hg : getM L n with
          | none =>
            rw [at_none hg]
            rw [hg] at HE
            have HE := Lib.hid (show RES = addM owner out2 (asIs n) D2 fun o' => textM8 (fun m D' => valueM8 L k way m D') (fun m => (getM L m).isSome) owner (rest.length + 1) o' rest D2 from HE.out)
            have hneg : ¬ (0 : Int) ≤ -1 := by omega
            generalize (-1 : Int) = neg at hneg ⊢
            have hx1 : ¬ 9223372036854775807 < 2 + (str n).size + 1 := by rw [hszn]; omega
            have hx2 : ¬ 9223372036854775807 < 2 + (str n).size := by rw [hszn]; omega
            have hx3 : ¬ 9223372036854775807 < (str out2).size + (2 + (str n).size + 1) := by rw [hszn, size_str]; omega
            have hcat1 := asIs_str n
            have hcat2 := cat_str out2 (asIs n)
            have hx4 : ¬ 9223372036854775807 < (str out2).size + (str (asIs n)).size := by rw [size_str, size_str]; omega
            clear hg hszn
            have hsz2 : (str (out2 ++ asIs n)).size = out2.length + (asIs n).length := by rw [size_str, List.length_append]
            by_cases hsm2 : 4096 < out2.length + (asIs n).length
            · have hI2 : (4096 : Int) < ((str (out2 ++ asIs n)).size : Int) := by rw [hsz2]; omega
              rw [addM_no hsm2] at HE
              have HFL := Lib.hid (fail8_any HH3.out 2 owner)
              clear hsz2
              go_wp2_with fail
              refine HFL.out.mono ?_
              rintro e w9 ⟨rfl, h9, m9⟩
              have HF := Lib.hid (show TxI B R L vL nm0 k way owner s vd vo RES w rest (out2 ++ asIs n) w9 from .stop 2 owner D2 way vd2 vo2 h9 (HM3.out.trans m9) (by decide) HE.out)
              clear h9 m9 HFL
              go_wp2
              go_roundw
              case rel => exact ⟨rest, _, rfl, rfl, by omega, by rw [List.length_append]; omega, HF.out⟩
              case measure => show (str rest).size < (str r).size; rw [size_str, size_str]; omega
            · have hI2 : ¬ (4096 : Int) < ((str (out2 ++ asIs n)).size : Int) := by rw [hsz2]; omega
              rw [addM_yes hsm2] at HE
              have HF := Lib.hid (show TxI B R L vL nm0 k way owner s vd vo RES w rest (out2 ++ asIs n) w3 from .go D2 vd2 vo2 HH3.out HM3.out HQ.out (by rw [List.length_append]; omega) HE.out)
              clear hsz2
              go_wp2
              go_roundw
              case rel => exact ⟨rest, _, rfl, rfl, by omega, by rw [List.length_append]; omega, HF.out⟩
              case measure => show (str rest).size < (str r).size; rw [size_str, size_str]; omega
          | some v0 =>
            obtain ⟨iv, hiv, _⟩ := at_some hg
            rw [hiv]
            rw [hg] at HE
            have HE := Lib.hid (show RES = (valueM8 L k way n D2).bind fun v D'' => addM owner out2 v D'' fun o' => textM8 (fun m D' => valueM8 L k way m D') (fun m => (getM L m).isSome) owner (rest.length + 1) o' rest D'' from HE.out)
            have hpos : (0 : Int) ≤ (iv : Int) := by omega
            have HV := Lib.hid (HVV.out D2 nm0 vd2 vo2 w3 n v0 hg HQ.out HH3.out)
            have HQ3 := Lib.hid (value_q L k way n D2 (by rw [hg]; rfl) HQ.out)
            have HSM := Lib.hid (fun (v' : List UInt8) (D3 : List Pp) (hx : valueM8 L k way n D2 = .ok v' D3) => value_short hx HQ.out)
            clear hg hiv hszn
            go_wp2_with fail
            refine HV.out.mono ?_
            rintro e w4 hval
            generalize valueM8 L k way n D2 = xv at HE hval HQ3 HSM
            clear HV c2
            cases xv with
            | bad er mm D3 =>
              obtain ⟨hz, sv, ways, vd3, vo3, rfl, hsv, h4, m4⟩ := hval
              have c2 : w4.cell? ⟨R, 2, none⟩ = some (.int .i64 er) := by rw [cell_of_row _ _ 2 _ _ (0, 0) h4.tab]; rfl
              have hz2 : (er == 0) = false := by rw [beq_eq_false_iff_ne]; exact hz
              have hcat1 := cat_str out2 sv
              have hx4 : ¬ 9223372036854775807 < (str out2).size + (str sv).size := by rw [size_str, size_str]; omega
              have HF := Lib.hid (show TxI B R L vL nm0 k way owner s vd vo RES w rest (out2 ++ sv) w4 from .stop er mm D3 ways vd3 vo3 h4 (HM3.out.trans m4) hz HE.out)
              clear h4 m4 hz HSM HQ3
              go_wp2
              go_roundw
              case rel => exact ⟨rest, _, rfl, rfl, by omega, by rw [List.length_append]; omega, HF.out⟩
              case measure => show (str rest).size < (str r).size; rw [size_str, size_str]; omega
            | ok v' D3 =>
              obtain ⟨rfl, vd3, vo3, h4, m4⟩ := hval
              have hv' : v'.length ≤ 4096 := HSM.out v' D3 rfl
              have HE := Lib.hid (show RES = addM owner out2 v' D3 fun o' => textM8 (fun m D' => valueM8 L k way m D') (fun m => (getM L m).isSome) owner (rest.length + 1) o' rest D3 from HE.out)
              have HQ3 := Lib.hid (show Q8 L way D3 from HQ3.out)
              have HH4 := Lib.hid h4
              have HM4 := Lib.hid (HM3.out.trans m4)
              have c2 : w4.cell? ⟨R, 2, none⟩ = some (.int .i64 0) := by rw [cell_of_row _ _ 2 _ _ (0, 0) h4.tab]; rfl
              have hcat1 := cat_str out2 v'
              have hx4 : ¬ 9223372036854775807 < (str out2).size + (str v').size := by rw [size_str, size_str]; omega
              clear h4 m4 HSM
              have hsz2 : (str (out2 ++ v')).size = out2.length + v'.length := by rw [size_str, List.length_append]
              by_cases hsm2 : 4096 < out2.length + v'.length
              · have hI2 : (4096 : Int) < ((str (out2 ++ v')).size : Int) := by rw [hsz2]; omega
                rw [addM_no hsm2] at HE
                have HFL := Lib.hid (fail8_any HH4.out 2 owner)
                clear hsz2
                go_wp2_with fail
                refine HFL.out.mono ?_
                rintro e w9 ⟨rfl, h9, m9⟩
                have HF := Lib.hid (show TxI B R L vL nm0 k way owner s vd vo RES w rest (out2 ++ v') w9 from .stop 2 owner D3 way vd3 vo3 h9 (HM4.out.trans m9) (by decide) HE.out)
                clear h9 m9 HFL
                go_wp2
                go_roundw
                case rel => exact ⟨rest, _, rfl, rfl, by omega, by rw [List.length_append]; omega, HF.out⟩
                case measure => show (str rest).size < (str r).size; rw [size_str, size_str]; omega
              · have hI2 : ¬ (4096 : Int) < ((str (out2 ++ v')).size : Int) := by rw [hsz2]; omega
                rw [addM_yes hsm2] at HE
                have HF := Lib.hid (show TxI B R L vL nm0 k way owner s vd vo RES w rest (out2 ++ v') w4 from .go D3 vd3 vo3 HH4.out HM4.out HQ3.out (by rw [List.length_append]; omega) HE.out)
                clear hsz2
                go_wp2
                go_roundw
                case rel => exact ⟨rest, _, rfl, rfl, by omega, by rw [List.length_append]; omega, HF.out⟩
                case measure => show (str rest).size < (str r).size; rw [size_str, size_str]; omega
end Go.Proofs.Ythfholnnkdoagaa
