/-
  Layer 8: a text is put together. Own work.
-/
import Derived.Test.YthfholnnkdoagaaTab8
namespace Go.Proofs.Ythfholnnkdoagaa
set_option linter.unusedVariables false
set_option linter.unusedSimpArgs false
open Go.RowKit

structure UOk (U : List Pp) : Prop where
  nodup : (U.map (·.1)).Nodup
  len : U.length ≤ 1000
  name : ∀ p ∈ U, p.1.length ≤ 1000 ∧ p.2.length ≤ 1000
theorem num_none {U : List Pp} {n : List UInt8} (h : getM U n = none) : numF U (str n) = none := by
  unfold numF
  rw [List.findIdx?_eq_none_iff]
  intro p hp
  rw [eqS_str, beq_eq_false_iff_ne]
  exact fun e => get_none.1 h (List.mem_map.2 ⟨p, hp, e⟩)
theorem num_some {U : List Pp} {n v : List UInt8} (h : getM U n = some v) : ∃ i, numF U (str n) = some i ∧ U[i]? = some (n, v) := by
  unfold getM at h
  rw [Option.map_eq_some_iff] at h
  obtain ⟨p, h1, h2⟩ := h
  have hh : numF U (str n) = U.findIdx? fun p => p.1 == n := by
    unfold numF
    congr 1
    funext p
    exact eqS_str _ _
  rw [hh]
  have h3 := List.find?_eq_some_iff_getElem.1 h1
  obtain ⟨h4, i, h5, h6, h7⟩ := h3
  refine ⟨i, ?_, ?_⟩
  · rw [List.findIdx?_eq_some_iff_getElem]
    exact ⟨h5, by rw [h6]; exact h4, fun j hj => by simpa using h7 j hj⟩
  · rw [List.getElem?_eq_getElem h5, h6]
    have : p.1 = n := by simpa using h4
    obtain ⟨a, b⟩ := p
    dsimp only at this h2
    rw [this, h2]
theorem Bld.fresh (w : World) : Bld w.heap.size w.heap.size [] (w.alloc (.cells #[.pointer none, .slice none 0 0] 92)) :=
  Lib.fresh_isBuilder _ _ w
/-- while put is under way -/
structure PutI (S : Tb) (U : List Pp) (X : Nat → Prop) (way : List Nat) (vw : Value) (owner : List UInt8) (O b : Nat) (w0 : World) (out : List UInt8) (D : List Pp) (w : World) : Prop where
  bld : Bld b b out w
  own : w.cell? ⟨O, 0, none⟩ = some (.string (str owner))
  st : St S U D (fun k => X k ∨ k = O) w
  wy : Wy S (fun k => X k ∨ k = O) way vw w
  kp : Kp S X w0 w
  ord : w0.heap.size ≤ O ∧ O < b ∧ b < w.heap.size ∧ S.B ≤ b
section
variable {S : Tb} {U D : List Pp} {X : Nat → Prop} {way : List Nat} {vw : Value} {owner out piece : List UInt8} {O b : Nat} {w0 w w' : World}
theorem PutI.far (h : PutI S U X way vw owner O b w0 out D w) (hb : Below w.heap.size w w') : PutI S U X way vw owner O b w0 out D w' :=
  ⟨h.bld.through (Kp.of_below (S := S) (X := X) hb), (hb.cell (World.block_lt_of_cell? w _ h.own)).trans h.own, h.st.below hb, h.wy.below hb, h.kp.trans (Kp.of_below hb), h.ord.1, h.ord.2.1, Nat.lt_of_lt_of_le h.ord.2.2.1 hb.size, h.ord.2.2.2⟩
theorem PutI.written (h : PutI S U X way vw owner O b w0 out D w) (hb : Below b w w') (ho : Lib.OthersKept 5 (some b) w w') (hB : Bld b b piece w') : PutI S U X way vw owner O b w0 piece D w' :=
  ⟨hB, (hb.cell (by have := h.ord; show O < b; omega)).trans h.own, h.st.others ho hb h.ord.2.2.2 (bld_ty h.bld), h.wy.others ho (bld_ty h.bld), h.kp.below (hb.mono (by have := h.ord; omega)), h.ord.1, h.ord.2.1, Nat.lt_of_lt_of_le h.ord.2.2.1 hb.size, h.ord.2.2.2⟩
theorem PutI.turned (h : PutI S U X way vw owner O b w0 out D w) {x : Xp} {e : Ending} (hv : ValP S U (fun k => X k ∨ k = O) way vw x w e w') : PutI S U X way vw owner O b w0 out x.D w' := by
  obtain ⟨h1, h2, h3, _⟩ := hv
  exact ⟨h.bld.through h3, h3.cell (.inr rfl) rfl h.own, h1, h2, h.kp.trans (h3.mono fun k hk => .inl hk), h.ord.1, h.ord.2.1, Nat.lt_of_lt_of_le h.ord.2.2.1 h3.size, h.ord.2.2.2⟩
theorem PutI.ends (h : PutI S U X way vw owner O b w0 out D w) : St S U D X w ∧ Wy S X way vw w ∧ Kp S X w0 w :=
  ⟨h.st.mono fun k hk => .inl hk, h.wy.mono fun k hk => .inl hk, h.kp⟩
theorem PutI.mxc (h : PutI S U X way vw owner O b w0 out D w) : w.cell? ⟨0, 0, none⟩ = some (.int .i64 S.m) := by
  obtain ⟨vv, h1, _⟩ := h.st
  exact h1.mx
theorem PutI.bad (h : PutI S U X way vw owner O b w0 out D w) {er : Int} {n : List UInt8} : ValP S U X way vw (.bad er n D) w0 (bad8 er n) w :=
  ⟨h.ends.1, h.ends.2.1, h.ends.2.2, rfl⟩
theorem PutI.ok (h : PutI S U X way vw owner O b w0 out D w) {v : List UInt8} : ValP S U X way vw (.ok v D) w0 (.returned (.string (str v))) w :=
  ⟨h.ends.1, h.ends.2.1, h.ends.2.2, rfl⟩
end
theorem addM_no {owner out piece : List UInt8} {D : List Pp} {k : List UInt8 → Xp} (h : 4096 < out.length + piece.length) : addM owner out piece D k = .bad 2 owner D := by
  unfold addM; rw [if_pos h]
theorem addM_yes {owner out piece : List UInt8} {D : List Pp} {k : List UInt8 → Xp} (h : ¬ 4096 < out.length + piece.length) : addM owner out piece D k = k (out ++ piece) := by
  unfold addM; rw [if_neg h]
theorem AddP.no {B b : Nat} {out piece owner : List UInt8} {w w' : World} {e : Ending} (h : AddP B b out piece owner w e w') (hs : 4096 < out.length + piece.length) : e = bad8 2 owner ∧ Below w.heap.size w w' := by
  unfold AddP at h; rw [if_pos hs] at h; exact h
theorem AddP.yes {B b : Nat} {out piece owner : List UInt8} {w w' : World} {e : Ending} (h : AddP B b out piece owner w e w') (hs : ¬ 4096 < out.length + piece.length) : e = .returned (.tuple #[]) ∧ Bld B b (out ++ piece) w' ∧ Below B w w' ∧ Lib.OthersKept 5 (some b) w w' := by
  unfold AddP at h; rw [if_neg hs] at h; exact h
theorem value_short {U : List Pp} {k : Nat} {way : List (List UInt8)} {n v : List UInt8} {D D' : List Pp} (h : valueM8 U k way n D = .ok v D') (hq : Q8 U way D) : v.length ≤ 4096 := by
  cases k with
  | zero => cases h
  | succ k =>
    rw [valueM8] at h
    split at h
    · cases h
    · split at h
      · next hg => cases h; exact hq.small _ (get_mem hg)
      · split at h
        · cases h
        · revert h
          generalize hx : textM8 _ _ _ _ _ _ D = x
          intro h
          cases x with
          | bad e m D2 => cases h
          | ok u D2 =>
            cases h
            exact text_len _ hx
theorem asIs_str (n : List UInt8) : (⟨#[36, 123]⟩ ++ str n ++ ⟨#[125]⟩ : ByteArray) = str (asIs n) := by
  apply ByteArray.ext
  apply Array.ext'
  simp [str, asIs, ByteArray.data_append]
/-- what value answers within these names -/
def ValC (S : Tb) (U : List Pp) (k : Nat) (way : List Nat) (wayN : List (List UInt8)) (vw : Value) : Prop :=
  ∀ (X : Nat → Prop) (D : List Pp) (w : World) (j : Nat) (p : Pp), U[j]? = some p → Q8 U wayN D → St S U D X w → Wy S X way vw w →
    Calls Try.prog 40 #[.pointer (some ⟨S.T, 0, none⟩), .int .i64 (j : Int), vw] w (ValP S U X way vw (valueM8 U k wayN p.1 D) w)
set_option maxHeartbeats 4000000 in
set_option maxRecDepth 100000 in
theorem put8_any (S : Tb) (U : List Pp) (hU : UOk U) (k : Nat) (way : List Nat) (wayN : List (List UInt8)) (vw : Value) (HV : ValC S U k way wayN vw)
    (X : Nat → Prop) (D : List Pp) (w : World) (s owner : List UInt8) (hs : s.length ≤ 100000) (hq : Q8 U wayN D) (hst : St S U D X w) (hwy : Wy S X way vw w) (hB : S.B ≤ w.heap.size) :
    Calls Try.prog 36 #[.pointer (some ⟨S.T, 0, none⟩), .string (str s), .string (str owner), vw] w
      (ValP S U X way vw (textM8 (fun m D' => valueM8 U k wayN m D') (fun m => (getM U m).isSome) owner (s.length + 1) [] s D) w) := by
  have HQ := Lib.hid hq
  have HST := Lib.hid hst
  have HWY := Lib.hid hwy
  have HVV := Lib.hid HV
  have hbO : Below w.heap.size w (w.alloc (.cells #[.string (str owner)] 9)) := (Below.refl _ _).alloc (Nat.le_refl _) _
  have hcO : (w.alloc (.cells #[.string (str owner)] 9)).cell? ⟨w.heap.size, 0, none⟩ = some (.string (str owner)) := by
    rw [cell_of_row _ _ 0 _ _ (0, 0) (heap_alloc_new w _)]; rfl
  have hsz : (w.alloc (.cells #[.string (str owner)] 9)).heap.size = w.heap.size + 1 := by simp
  have HI := Lib.hid (show PutI S U X way vw owner w.heap.size (w.heap.size + 1) w [] D ((w.alloc (.cells #[.string (str owner)] 9)).alloc (.cells #[.pointer none, .slice none 0 0] 92)) from by
    have hb2 : Below (w.heap.size + 1) (w.alloc (.cells #[.string (str owner)] 9)) ((w.alloc (.cells #[.string (str owner)] 9)).alloc (.cells #[.pointer none, .slice none 0 0] 92)) := by
      rw [← hsz]; exact (Below.refl _ _).alloc (Nat.le_refl _) _
    have hb3 := hbO.trans (hb2.mono (Nat.le_succ _))
    refine ⟨?_, ?_, hst.join hb3 (Nat.le_refl _) (by simp; omega), hwy.join hb3 (Nat.le_refl _), Kp.of_below hb3, Nat.le_refl _, Nat.lt_succ_self _, by simp, by omega⟩
    · have := Bld.fresh (w.alloc (.cells #[.string (str owner)] 9))
      rw [hsz] at this
      exact this
    · exact (hb2.cell (by show w.heap.size < w.heap.size + 1; omega)).trans hcO)
  generalize hX : textM8 (fun m D' => valueM8 U k wayN m D') (fun m => (getM U m).isSome) owner (s.length + 1) [] s D = RES
  have HX := Lib.hid hX
  clear hX hbO hcO hsz hst hwy hq HV
  go_enter Try.func36, Try.ntmps36
  go_upto_region 2 with fail
  generalize (w.alloc (.cells #[.string (str owner)] 9)).alloc (.cells #[.pointer none, .slice none 0 0] 92) = w1 at HI ⊢
  generalize hO : w.heap.size = O at HI ⊢
  generalize hb : O + 1 = b at HI ⊢
  have HO := Lib.hid hO
  have HBb := Lib.hid hb
  clear hO hb
  go_wp2_with fail
  go_loopw [1] (fun t1 wr => ∃ (r out : List UInt8) (D' : List Pp), t1 = .string (str r) ∧ r.length ≤ s.length ∧ out.length ≤ 4096 ∧ RES = textM8 (fun m D' => valueM8 U k wayN m D') (fun m => (getM U m).isSome) owner (r.length + 1) out r D' ∧ Q8 U wayN D' ∧ PutI S U X way vw owner O b w out D' wr) (fun t1 _ => txtLen t1)
  case atStart => exact ⟨s, [], D, rfl, Nat.le_refl _, by simp, HX.out.symm, HQ.out, HI.out⟩
  case round =>
    obtain ⟨r, out, D', rfl, hr, hout, hres, hq', hi⟩ := hrel
    have HR := Lib.hid hres
    have HQ2 := Lib.hid hq'
    have HI2 := Lib.hid hi
    have HC := Lib.hid (cut8_any r (by omega) S.m wr hi.mxc)
    clear hres hq' hi HX HI
    go_wp2_with fail
    refine HC.out.mono ?_
    rintro e w2 ⟨⟨nn, rfl⟩, hq⟩
    have HI3 := Lib.hid (HI2.out.far (drewN_below (Below.refl _ _) nn))
    clear HC HI2
    cases hrf : refM8 r with
    | none =>
      rw [hrf] at hq
      dsimp only at hq
      subst hq
      rw [text_end hrf] at HR
      clear hrf
      generalize wr.drewN nn = w2 at HI3 ⊢
      have HA := Lib.hid (add8_any b b O out r owner w2 HI3.out.bld HI3.out.own (by omega) (by omega) (Nat.le_of_lt HI3.out.ord.2.2.1))
      go_wp2_with fail
      refine HA.out.mono ?_
      rintro e w3 hadd
      by_cases hsm : 4096 < out.length + r.length
      · obtain ⟨rfl, hb3⟩ := hadd.no hsm
        rw [addM_no hsm] at HR
        have HF := Lib.hid (show ValP S U X way vw RES w (bad8 2 owner) w3 by rw [HR.out]; exact (HI3.out.far hb3).bad)
        clear hadd hb3 HA HI3 hsm
        go_wp2
        exact ⟨rfl, HF.out⟩
      · obtain ⟨rfl, hbl, hb3, ho3⟩ := hadd.yes hsm
        rw [addM_yes hsm] at HR
        have HI4 := Lib.hid (HI3.out.written hb3 ho3 hbl)
        have HS := Lib.hid (Try.Builder_String_any_k b b (out ++ r) w3 (Lib.IsBuilderF.of HI4.out.bld) (Nat.le_of_lt HI4.out.ord.2.2.1))
        clear hadd hb3 HA HI3 hsm hbl ho3
        go_wp2_with fail
        refine HS.out.mono ?_
        rintro e w4 ⟨rfl, hbF, hb4, ho4⟩
        have HF := Lib.hid (show ValP S U X way vw RES w (.returned (.string (str (out ++ r)))) w4 by
          rw [HR.out]
          have h1 := HI4.out
          refine ⟨(h1.st.others ho4 hb4 h1.ord.2.2.2 (bld_ty h1.bld)).mono fun k hk => .inl hk, (h1.wy.others ho4 (bld_ty h1.bld)).mono fun k hk => .inl hk, h1.kp.below (hb4.mono (by have := h1.ord; omega)), rfl⟩)
        clear HS hbF hb4 ho4 HI4
        go_wp2
        go_ret
        exact HF.out
    | some p =>
      obtain ⟨a, nm, rest⟩ := p
      rw [hrf] at hq
      dsimp only at hq
      subst hq
      have hlen := ref_len hrf
      rw [text_at hrf] at HR
      clear hrf
      generalize wr.drewN nn = w2 at HI3 ⊢
      have HA := Lib.hid (add8_any b b O out a owner w2 HI3.out.bld HI3.out.own (by omega) (by omega) (Nat.le_of_lt HI3.out.ord.2.2.1))
      go_wp2_with fail
      refine HA.out.mono ?_
      rintro e w3 hadd
      by_cases hsm : 4096 < out.length + a.length
      · obtain ⟨rfl, hb3⟩ := hadd.no hsm
        rw [addM_no hsm] at HR
        have HF := Lib.hid (show ValP S U X way vw RES w (bad8 2 owner) w3 by rw [HR.out]; exact (HI3.out.far hb3).bad)
        clear hadd hb3 HA HI3 hsm
        go_wp2
        exact ⟨rfl, HF.out⟩
      · obtain ⟨rfl, hbl, hb3, ho3⟩ := hadd.yes hsm
        rw [addM_yes hsm] at HR
        have HI4 := Lib.hid (HI3.out.written hb3 ho3 hbl)
        have ho2 : (out ++ a).length ≤ 4096 := by rw [List.length_append]; omega
        generalize out ++ a = out2 at HR HI4 ho2
        obtain ⟨vv, hv1, _⟩ := HI4.out.st
        have hc1 : w3.cell? ⟨S.T, 1, none⟩ = some (.map (some S.N)) := by rw [cell_of_row _ _ 1 _ _ (0, 0) hv1.tab]; rfl
        have HLK := Lib.hid (lookup8_any S.T S.N _ _ (str nm) w3 hc1 hv1.number (by rw [size_str]; unfold maxLen; omega))
        clear hadd hb3 HA HI3 hsm hbl ho3 hv1 hc1
        cases hg : getM U nm with
        | some v =>
          obtain ⟨j, hj, hUj⟩ := num_some hg
          rw [hj] at HLK
          rw [hg] at HR
          have HR := Lib.hid (show RES = (valueM8 U k wayN nm D').bind fun v D'' => addM owner out2 v D'' fun o' => textM8 (fun m D' => valueM8 U k wayN m D') (fun m => (getM U m).isSome) owner (rest.length + 1) o' rest D'' from HR.out)
          have HV := Lib.hid (HVV.out _ D' w3 j (nm, v) hUj HQ2.out HI4.out.st HI4.out.wy)
          have HQ3 := Lib.hid (value_q U k wayN nm D' (by rw [hg]; rfl) HQ2.out)
          clear hj hUj hg
          go_wp2_with fail
          refine HLK.out.mono ?_
          rintro e w4 ⟨rfl, hw4⟩
          obtain rfl : w3 = w4 := hw4.symm
          simp only [Option.getD_some, Option.isSome_some]
          clear HLK
          go_wp2_with fail
          refine HV.out.mono ?_
          rintro e w5 hval
          have HI5 := Lib.hid (HI4.out.turned hval)
          have HE := Lib.hid hval.2.2.2
          have HSM := Lib.hid (fun (v' : List UInt8) (D2 : List Pp) (hx : valueM8 U k wayN nm D' = .ok v' D2) => value_short hx HQ2.out)
          clear hval HV HI4
          (try dsimp only at HE HI5 HR)
          generalize valueM8 U k wayN nm D' = xv at HR HI5 HE HQ3 HSM
          cases xv with
          | bad er m D2 =>
            obtain rfl := HE.out
            have HF := Lib.hid (show ValP S U X way vw RES w (bad8 er m) w5 by rw [HR.out]; exact HI5.out.bad)
            clear HI5 HE HQ3 HSM
            go_wp2
            exact ⟨rfl, HF.out⟩
          | ok v' D2 =>
            obtain rfl := HE.out
            have hv' : v'.length ≤ 4096 := HSM.out v' D2 rfl
            have HR := Lib.hid (show RES = addM owner out2 v' D2 fun o' => textM8 (fun m D' => valueM8 U k wayN m D') (fun m => (getM U m).isSome) owner (rest.length + 1) o' rest D2 from HR.out)
            have HI5 := Lib.hid (show PutI S U X way vw owner O b w out2 D2 w5 from HI5.out)
            have HQ3 := Lib.hid (show Q8 U wayN D2 from HQ3.out)
            have HA := Lib.hid (add8_any b b O out2 v' owner w5 HI5.out.bld HI5.out.own (by omega) (by omega) (Nat.le_of_lt HI5.out.ord.2.2.1))
            clear HE HSM
            go_wp2_with fail
            refine HA.out.mono ?_
            rintro e w6 hadd
            by_cases hsm : 4096 < out2.length + v'.length
            · obtain ⟨rfl, hb3⟩ := hadd.no hsm
              rw [addM_no hsm] at HR
              have HF := Lib.hid (show ValP S U X way vw RES w (bad8 2 owner) w6 by rw [HR.out]; exact (HI5.out.far hb3).bad)
              clear hadd hb3 HA HI5 hsm
              go_wp2
              exact ⟨rfl, HF.out⟩
            · obtain ⟨rfl, hbl, hb3, ho3⟩ := hadd.yes hsm
              rw [addM_yes hsm] at HR
              have HI6 := Lib.hid (HI5.out.written hb3 ho3 hbl)
              have ho4 : (out2 ++ v').length ≤ 4096 := by rw [List.length_append]; omega
              clear hadd hb3 HA HI5 hsm hbl ho3
              go_wp2_with fail
              go_roundw
              case rel => exact ⟨rest, out2 ++ v', D2, rfl, by omega, ho4, HR.out, HQ3.out, HI6.out⟩
              case measure => show (str rest).size < (str r).size; rw [size_str, size_str]; omega
        | none =>
          rw [num_none hg] at HLK
          rw [hg] at HR
          have HR := Lib.hid (show RES = addM owner out2 (asIs nm) D' fun o' => textM8 (fun m D' => valueM8 U k wayN m D') (fun m => (getM U m).isSome) owner (rest.length + 1) o' rest D' from HR.out)
          have hal : (asIs nm).length = nm.length + 3 := by simp [asIs]
          clear hg
          go_wp2_with fail
          refine HLK.out.mono ?_
          rintro e w4 ⟨rfl, hw4⟩
          obtain rfl : w3 = w4 := hw4.symm
          simp only [Option.getD_none, Option.isSome_none]
          clear HLK
          have HA := Lib.hid (add8_any b b O out2 (asIs nm) owner w3 HI4.out.bld HI4.out.own (by omega) (by omega) (Nat.le_of_lt HI4.out.ord.2.2.1))
          have hx1 : ¬ 9223372036854775807 < 2 + (str nm).size + 1 := by rw [size_str]; omega
          have hx2 : ¬ 9223372036854775807 < 2 + (str nm).size := by rw [size_str]; omega
          have hcat := asIs_str nm
          go_wp2_with fail
          refine HA.out.mono ?_
          rintro e w4 hadd
          by_cases hsm : 4096 < out2.length + (asIs nm).length
          · obtain ⟨rfl, hb3⟩ := hadd.no hsm
            rw [addM_no hsm] at HR
            have HF := Lib.hid (show ValP S U X way vw RES w (bad8 2 owner) w4 by rw [HR.out]; exact (HI4.out.far hb3).bad)
            clear hadd hb3 HA HI4 hsm
            go_wp2
            exact ⟨rfl, HF.out⟩
          · obtain ⟨rfl, hbl, hb3, ho3⟩ := hadd.yes hsm
            rw [addM_yes hsm] at HR
            have HI6 := Lib.hid (HI4.out.written hb3 ho3 hbl)
            have ho4 : (out2 ++ asIs nm).length ≤ 4096 := by rw [List.length_append]; omega
            clear hadd hb3 HA HI4 hsm hbl ho3
            go_wp2_with fail
            go_roundw
            case rel => exact ⟨rest, out2 ++ asIs nm, D', rfl, by omega, ho4, HR.out, HQ2.out, HI6.out⟩
            case measure => show (str rest).size < (str r).size; rw [size_str, size_str]; omega
end Go.Proofs.Ythfholnnkdoagaa
