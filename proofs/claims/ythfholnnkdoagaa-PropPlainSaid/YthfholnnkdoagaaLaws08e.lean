/-
  Layer 8: the statement PropPlain: for every properties and two texts. Own work.
-/
import Derived.Test.YthfholnnkdoagaaBth8
import Derived.Test.YthfholnnkdoagaaPln8
namespace Go.Proofs.Ythfholnnkdoagaa
set_option linter.unusedVariables false
set_option linter.unusedSimpArgs false
open Go.ChangeShapes Go.WideShapes Go.ChangeAt Go.RowKit
open Go.ChangeMaps (open_string shut_string)

/-- the errors that there are -/
def Err8 (x : Xp) : Prop := ∀ e m D, x = .bad e m D → e = 2 ∨ e = 22
theorem addM_err {owner out piece : List UInt8} {D : List Pp} {k : List UInt8 → Xp} (h : ∀ o, Err8 (k o)) : Err8 (addM owner out piece D k) := by
  unfold addM
  split
  · intro e m D' hx; cases hx; exact .inl rfl
  · exact h _
theorem text_err {val : List UInt8 → List Pp → Xp} {known : List UInt8 → Bool} {owner : List UInt8} (hv : ∀ n D, Err8 (val n D)) : ∀ (g : Nat) (out s : List UInt8) (D : List Pp), s.length < g → Err8 (textM8 val known owner g out s D)
  | 0, _, _, _, h => by omega
  | g + 1, out, s, D, h => by
    rw [textM8]
    cases hr : refM8 s with
    | none => exact addM_err fun o e m D' hx => by cases hx
    | some p =>
      obtain ⟨a, n, r⟩ := p
      have hl := ref_len hr
      dsimp only
      refine addM_err fun o => ?_
      split
      · have h1 := hv n D
        revert h1
        cases val n D with
        | ok v D1 => exact fun _ => addM_err fun o' => text_err hv g o' r D1 (by omega)
        | bad e m D1 => exact fun h1 => h1
      · exact addM_err fun o' => text_err hv g o' r D (by omega)
theorem value_err (U : List Pp) : ∀ (k : Nat) (way : List (List UInt8)) (n : List UInt8) (D : List Pp), way.length + k = 33 → 1 ≤ k → Err8 (valueM8 U k way n D)
  | 0, _, _, _, _, h => by omega
  | k + 1, way, n, D, hl, _ => by
    rw [valueM8]
    split
    · intro e m D' hx; cases hx; exact .inr rfl
    · split
      · intro e m D' hx; cases hx
      · split
        · intro e m D' hx; cases hx; exact .inl rfl
        · next h32 =>
          have h1 := text_err (val := fun m D' => valueM8 U k (way ++ [n]) m D') (known := fun m => (getM U m).isSome) (owner := n) (fun m D' => value_err U k _ m D' (by rw [List.length_append, List.length_singleton]; omega) (by omega)) (((getM U n).getD []).length + 1) [] ((getM U n).getD []) D (by omega)
          revert h1
          generalize textM8 (fun m D' => valueM8 U k (way ++ [n]) m D') (fun m => (getM U m).isSome) n (((getM U n).getD []).length + 1) [] ((getM U n).getD []) D = x
          intro h1
          cases x with
          | ok v D1 => intro e m D' hx; cases hx
          | bad e m D1 => exact h1
theorem expand_err (U : List Pp) (s : List UInt8) (D : List Pp) : Err8 (expandM8 U s D) := text_err (fun m D' => value_err U 33 [] m D' rfl (by omega)) (s.length + 1) [] s D (by omega)
theorem expand_q8 {U : List Pp} {s : List UInt8} {D : List Pp} (h : Q8 U [] D) : Q8 U [] (expandM8 U s D).D := text_q U (k := 33) (s.length + 1) h
/-- between two texts -/
structure PI (S : Tb) (U L : List Pp) (vL : Value) (w0 : World) (D : List Pp) (w : World) : Prop where
  st : St S U D (fun _ => False) w
  row : w.ownsRow w0.heap.size 33 2 vL (prs L).length (rowPr (prs L))
  q : Q8 U [] D
  b : Below w0.heap.size w0 w
  lt : (∀ k, vL.ownBlock = some k → k < S.B) ∧ w0.heap.size ≤ S.B
theorem PI.far {S : Tb} {U L : List Pp} {vL : Value} {w0 : World} {D : List Pp} {w w' : World} (h : PI S U L vL w0 D w) (hb : Below w.heap.size w w') : PI S U L vL w0 D w' :=
  ⟨h.st.below hb, own_mvd8 h.row hb, h.q, h.b.trans (hb.mono h.b.size), h.lt⟩
theorem PI.exp {S : Tb} {U L : List Pp} {vL : Value} {w0 : World} {D : List Pp} {w w' : World} {s : List UInt8} (h : PI S U L vL w0 D w) (h1 : St S U (expandM8 U s D).D (fun _ => False) w') (h2 : Kp S (fun _ => False) w w') : PI S U L vL w0 (expandM8 U s D).D w' := by
  have hb := h2.under (own8_base h.st)
  exact ⟨h1, own_frame h.row fun k cs hk hc => (hb.block k (h.lt.1 k hk)).trans hc, expand_q8 h.q, h.b.trans (hb.mono h.lt.2), h.lt⟩
theorem expV_bad (er : Int) (n : List UInt8) (D : List Pp) : expV (.bad er n D) = .tuple #[.string ⟨#[]⟩, .int .i64 er, .string (str n)] := rfl
theorem expV_ok (v : List UInt8) (D : List Pp) : expV (.ok v D) = .tuple #[.string (str v), .int .i64 0, .string ⟨#[]⟩] := rfl
theorem numL_is (x : Xp) : ∃ (s n : ByteArray) (e : Int), expV x = .tuple #[.string s, .int .i64 e, .string n] := by
  cases x <;> exact ⟨_, _, _, rfl⟩
theorem RowS.at' {w w' : World} {v : Value} {l : List (List UInt8)} {a : Option Addr} {c : Nat} {i : Nat} {n : List UInt8} (h : RowS w v l w') (hv : v = .slice a l.length c) (hi : l[i]? = some n) : ∃ g, a = some ⟨g, 0, none⟩ ∧ w'.cell? ⟨g, i, none⟩ = some (.string (str n)) := by
  obtain ⟨g, cap, hvf, _, _⟩ := h.1.form (by have := (List.getElem?_eq_some_iff.1 hi).1; omega)
  rw [hv] at hvf
  cases hvf
  refine ⟨g, rfl, ?_⟩
  have h1 := h.1.cells (g := g) (by rw [hv]; rfl) i (.string (str n)) (by unfold strVs; rw [List.getElem?_map, hi]; rfl)
  rw [add_q] at h1
  exact h1
theorem RowS.far' {w w1 w2 : World} {v : Value} {l : List (List UInt8)} (h : RowS w v l w1) (hb : Below w1.heap.size w1 w2) : RowS w v l w2 :=
  ⟨own_mvd8 h.1 hb, h.2.trans (hb.mono h.2.size)⟩
set_option maxRecDepth 100000 in
set_option maxHeartbeats 8000000 in
theorem walk_PropPlain (w : World) (m : Int) (hm : w.cell? ⟨0, 0, none⟩ = some (.int .i64 m)) (v0 : Value) (l0 : List Pr) (h0 : RdPs w v0 l0) (ok0 : ∀ p ∈ l0, okPr p) (sa : ByteArray) (hsa : sa.size ≤ 9223372036854775807) (sb : ByteArray) (hsb : sb.size ≤ 9223372036854775807) :
    Calls Try.prog 7 #[v0, .string sa, .string sb] w fun e w' => e = .returned (.bool true) ∧ Below w.heap.size w w' := by
  have HF := Lib.hid (few8_any l0 v0 w h0 ok0)
  have HM := Lib.hid hm
  have HLV := Lib.hid (fun w' (hb : Below w.heap.size w w') => lives8 m w' ((hb.cell (World.block_lt_of_cell? w _ hm)).trans hm))
  have HCA := Lib.hid (fun w => cutL8_eq sa hsa w)
  have HCB := Lib.hid (fun w => cutL8_eq sb hsb w)
  have hla := cut8_len sa
  have hlb := cut8_len sb
  generalize cut8 sa = a at HCA hla
  generalize cut8 sb = b at HCB hlb
  clear hm h0 ok0
  go_enter Try.func7, Try.ntmps7
  go_wp2_with fail
  refine HF.out.mono ?_
  rintro e w1 ⟨vL, L, rfl, hrow, hfit, hb1⟩
  obtain ⟨aL, cL, hvL⟩ := own_shape8 hrow
  have hpl : (prs L).length = L.length := prs_len L
  rw [hpl] at hvL
  subst hvL
  have HROW := Lib.hid hrow
  have HFIT := Lib.hid hfit
  have HB1 := Lib.hid hb1
  clear HF hrow hfit hb1 hpl
  go_wp2_with fail
  refine (HCA.out _).mono ?_
  rintro e w1a ⟨rfl, hwa⟩
  obtain rfl : w1 = w1a := hwa.symm
  go_wp2_with fail
  refine (HCB.out _).mono ?_
  rintro e w1b ⟨rfl, hwb⟩
  obtain rfl : w1 = w1b := hwb.symm
  have hm1 := (HB1.out.cell (World.block_lt_of_cell? w _ HM.out)).trans HM.out
  have HN := Lib.hid (New8_any L (.slice aL L.length cL) m w1 (RdPs.of_own HROW.out) (by have := HFIT.out.1; omega) (fun p hp => (HFIT.out.2 p hp).1) hm1)
  clear hm1 HCA HCB
  go_wp2_with fail
  refine HN.out.mono ?_
  rintro e w2 ⟨S, rfl, hst, hSB, hb2, hSm⟩
  have HP2 := Lib.hid (show PI S (firsts [] L) L (.slice aL L.length cL) w [] w2 from ⟨hst.st rfl (fun _ h => h.elim), own_mvd8 HROW.out hb2, Q8.nil _ _, HB1.out.trans (hb2.mono HB1.out.size), fun k hk => by
    obtain ⟨cs, q, _⟩ := own_ty HROW.out hk
    rw [hSB]
    exact (Array.getElem?_eq_some_iff.1 q).1, by rw [hSB]; exact HB1.out.size⟩)
  have hU : UOk (firsts [] L) := HFIT.out.ok
  have HG := Lib.hid (firsts_get L)
  generalize hUe : firsts [] L = U at HP2 hU HG
  have HXA := Lib.hid (Expand8_any S U hU (fun _ => False) [] w2 a (by omega) (Q8.nil _ _) HP2.out.st)
  clear HN hst hb2 hSB hSm HROW HB1
  go_wp2_with fail
  refine HXA.out.mono ?_
  rintro e w3 ⟨rfl, hst3, hk3⟩
  have HP3 := Lib.hid (HP2.out.exp hst3 hk3)
  have HPA := Lib.hid (show (∀ n ∈ refsM (a.length + 1) a, getM L n = none) → expandM8 U a [] = .ok a [] from fun h => by
    unfold expandM8
    exact text_unknown (a.length + 1) [] a [] (by omega) (fun n hn => by rw [HG.out, h n hn]; rfl) (by simp; omega))
  generalize hxa : expandM8 U a [] = xa at HP3 HPA
  obtain ⟨xs, xn, xe, hxv⟩ := numL_is xa
  have HXV := Lib.hid hxv
  rw [hxv]
  clear hst3 hk3 HXA HP2 hxa hxv
  have HRF := Lib.hid (refRefs8_any a (by omega) w3)
  go_wp2_with fail
  refine HRF.out.mono ?_
  rintro e w4 ⟨vr, rfl, hr⟩
  have HR := Lib.hid hr
  have HP4 := Lib.hid (HP3.out.far hr.2)
  generalize hns : refsM (a.length + 1) a = ns at HR HPA
  obtain ⟨ar, cr, hvr⟩ := own_shape8 HR.out.1
  subst hvr
  have hnl : ns.length ≤ 9223372036854775807 := by
    rcases HR.out.1.2 with ⟨_, h0⟩ | ⟨g, cap, cur, _, _, _, h1, h4, _⟩
    · omega
    · unfold maxLen at h4; omega
  have hnlI : (ns.length : Int) ≤ 9223372036854775807 := by omega
  clear hr HRF hns HP3
  go_upto_region 6 with fail
  go_loopw [11, 39] (fun t11 i wr => ∃ (k : Nat) (kn : Bool), k ≤ ns.length ∧ i = .int .i64 k ∧ t11 = .bool kn ∧ (kn = false → ∀ n ∈ ns.take k, getM L n = none) ∧ Below w4.heap.size w4 wr) (fun _ i _ => ns.length - (intOf i).toNat)
  case atStart => exact ⟨0, false, by omega, rfl, rfl, by simp, Below.refl _ _⟩
  case round =>
    obtain ⟨k, kn, hk, rfl, rfl, hkn, hb⟩ := hrel
    have HKN := Lib.hid hkn
    have HB := Lib.hid hb
    clear hkn hb
    by_cases hlt : k < ns.length
    · obtain ⟨n, hn⟩ : ∃ n, ns[k]? = some n := ⟨_, List.getElem?_eq_getElem hlt⟩
      obtain ⟨g3, hg3, c3⟩ := (HR.out.far' HB.out).at' rfl hn
      subst hg3
      have hkI : (k : Int) < (ns.length : Int) := by omega
      have HNN := Lib.hid hn
      have HAT := Lib.hid (At_any (prs L) (str n) (.slice aL L.length cL) wr (RdPs.of_own (HP4.out.far HB.out).row))
      clear hn
      cases kn with
      | true =>
        clear HAT
        go_wp2
        go_roundw
        case rel => exact ⟨k + 1, true, by omega, by go_num, rfl, (fun h => by cases h), HB.out⟩
        case measure => simp [intOf]; omega
      | false =>
        go_wp2_with fail
        refine HAT.out.mono ?_
        rintro e w5 ⟨rfl, hb5⟩
        have HB5 := Lib.hid (HB.out.trans (hb5.mono HB.out.size))
        clear hb5 HAT c3
        cases hg : getM L n with
        | some v =>
          obtain ⟨i, hi, _⟩ := at_some hg
          rw [hi]
          have hpos : (0 : Int) ≤ (i : Int) := by omega
          clear hg hi
          go_wp2
          go_roundw
          case rel => exact ⟨k + 1, true, by omega, by go_num, rfl, (fun h => by cases h), HB5.out⟩
          case measure => simp [intOf]; omega
        | none =>
          rw [at_none hg]
          have HKN2 := Lib.hid (show ∀ q ∈ ns.take (k + 1), getM L q = none from fun q hq => by
            rw [List.take_add_one, HNN.out, List.mem_append] at hq
            rcases hq with hq | hq
            · exact HKN.out (by trivial) q hq
            · simp at hq; rw [hq]; exact hg)
          have hneg : ¬ (0 : Int) ≤ -1 := by omega
          generalize (-1 : Int) = neg at hneg ⊢
          clear hg
          go_wp2
          go_roundw
          case rel => exact ⟨k + 1, false, by omega, by go_num, congrArg Value.bool (decide_eq_false (by omega)), fun _ => HKN2.out, HB5.out⟩
          case measure => simp [intOf]; omega
    · have hle : (ns.length : Int) ≤ k := by omega
      have HPR := Lib.hid (HP4.out.far HB.out)
      have HKA := Lib.hid (show kn = false → xa = .ok a [] from fun h => HPA.out fun n hn => HKN.out h n (by rw [List.take_of_length_le (by omega)]; exact hn))
      clear HR HB HKN HP4 HPA
      go_upto_region 10 with fail
      go_cut [61] from 61 to 62 (fun t wx => t = .bool false ∧ wx = wr)
      case first =>
        cases kn with
        | true =>
          go_wp2_with fail
          go_meet
          exact ⟨rfl, rfl⟩
        | false =>
          have hx := HXV.out
          rw [HKA.out rfl, expV_ok] at hx
          cases hx
          go_wp2_with fail
          go_meet
          exact ⟨rfl, rfl⟩
      case rest =>
      obtain ⟨rfl, hwc⟩ := hcut
      subst hwc
      clear HKA
      have hal : ((str a).size : Int) = (a.length : Int) := by rw [size_str]
      have hall : (a.length : Int) ≤ 1000 := by omega
      go_upto_region 13 with fail
      go_loopw [64] (fun i wq => ∃ j : Nat, j ≤ a.length ∧ i = .int .i64 j ∧ wq = wc ∧ ∀ c ∈ a.take j, c ≠ 36) (fun i _ => a.length - (intOf i).toNat)
      case atStart => exact ⟨0, by omega, rfl, rfl, by simp⟩
      case round =>
        obtain ⟨j, hj, rfl, hwq, hno⟩ := hrel
        obtain rfl : wc = wr := hwq.symm
        have HNO := Lib.hid hno
        clear hno
        by_cases hlt2 : j < a.length
        · obtain ⟨c, hc⟩ : ∃ c, a[j]? = some c := ⟨_, List.getElem?_eq_getElem hlt2⟩
          have hidx := hidx8 (str a) j c (by rw [show (str a).data.toList = a by simp [str]]; exact hc)
          have hjI : (j : Int) < (a.length : Int) := by omega
          have HC := Lib.hid hc
          have HLW := Lib.hid (HLV.out wc HPR.out.b)
          by_cases h36 : c = 36
          · have hb36 : ((c.toNat : Int) == 36) = true := by rw [h36]; rfl
            clear hc
            go_wp2_with fail
            refine HLW.out.mono ?_
            rintro e w7 ⟨rfl, hb7⟩
            have HZ := Lib.hid (HPR.out.b.trans (hb7.mono HPR.out.b.size))
            clear hb7
            go_wp2
            go_ret
            exact ⟨rfl, HZ.out⟩
          · have hb36 : ((c.toNat : Int) == 36) = false := by
              have := byte_ne h36
              simpa [bne] using this
            have HN2 := Lib.hid (show ∀ d ∈ a.take (j + 1), d ≠ 36 from fun d hd => by
              rw [List.take_add_one, HC.out, List.mem_append] at hd
              rcases hd with hd | hd
              · exact HNO.out d hd
              · simp at hd; rw [hd]; exact h36)
            by_cases h123 : c = 123
            · have hb123 : ((c.toNat : Int) == 123) = true := by rw [h123]; rfl
              clear hc
              go_wp2_with fail
              refine HLW.out.mono ?_
              rintro e w7 ⟨rfl, hb7⟩
              have HZ := Lib.hid (HPR.out.b.trans (hb7.mono HPR.out.b.size))
              clear hb7
              go_wp2
              go_ret
              exact ⟨rfl, HZ.out⟩
            · have hb123 : ((c.toNat : Int) == 123) = false := by
                have := byte_ne h123
                simpa [bne] using this
              clear hc HLW
              go_wp2
              go_roundw
              case rel => exact ⟨j + 1, by omega, by go_num, (by first | trivial | rfl), HN2.out⟩
              case measure => simp [intOf]; omega
        · have hle2 : (a.length : Int) ≤ j := by omega
          have ha36 : ∀ c ∈ a, c ≠ 36 := fun c hc => HNO.out c (by rw [List.take_of_length_le (by omega)]; exact hc)
          have HXB := Lib.hid (Expand8_any S U hU (fun _ => False) xa.D wc b (by omega) HPR.out.q HPR.out.st)
          have HTW := Lib.hid (plain_two (U := U) (a := a) (b := b) (D := xa.D) HPR.out.q ha36 hla)
          have HER := Lib.hid (expand_err U b xa.D)
          have hcat := cat_str a b
          have hx1 : ¬ 9223372036854775807 < (str a).size + (str b).size := by rw [size_str, size_str]; omega
          clear ha36 HNO
          go_wp2_with fail
          refine HXB.out.mono ?_
          rintro e w5 ⟨rfl, hst5, hk5⟩
          have HP5 := Lib.hid (HPR.out.exp hst5 hk5)
          clear hst5 hk5 HXB
          have HXC := Lib.hid (Expand8_any S U hU (fun _ => False) (expandM8 U b xa.D).D w5 (a ++ b) (by rw [List.length_append]; omega) HP5.out.q HP5.out.st)
          generalize hxb : expandM8 U b xa.D = xb at HP5 HTW HER HXC ⊢
          cases xb with
          | bad er nn D5 =>
            rw [expV_bad]
            have her := HER.out er nn D5 rfl
            have HT := Lib.hid (HTW.out.2 er nn D5 rfl)
            have hz : (er != 0) = true := by rcases her with rfl | rfl <;> decide
            clear hxb HER HTW
            go_wp2_with fail
            refine HXC.out.mono ?_
            rintro e w6 ⟨rfl, hst6, hk6⟩
            have HB6 := Lib.hid (HP5.out.exp hst6 hk6).b
            have HLW := Lib.hid (HLV.out w6 HB6.out)
            clear hst6 hk6 HXC
            rcases HT.out with h2 | h2
            · rw [show (Xp.bad er nn D5).D = D5 from rfl, h2, expV_bad]
              have hsf : ((str nn).toList == (str nn).toList) = true := by simp
              have hee : (er == er) = true := by simp
              generalize str nn = sn at hsf ⊢
              clear h2 her
              go_wp2_with fail
              refine HLW.out.mono ?_
              rintro e w7 ⟨rfl, hb7⟩
              have HZ := Lib.hid (HB6.out.trans (hb7.mono HB6.out.size))
              clear hb7
              go_wp2
              go_ret
              exact ⟨rfl, HZ.out⟩
            · rw [show (Xp.bad er nn D5).D = D5 from rfl, h2, expV_bad]
              clear h2
              generalize str nn = sn
              generalize str [] = s0
              rcases her with rfl | rfl
              · by_cases hss : sn.toList = s0.toList
                all_goals
                  go_wp2_with fail
                  refine HLW.out.mono ?_
                  rintro e w7 ⟨rfl, hb7⟩
                  have HZ := Lib.hid (HB6.out.trans (hb7.mono HB6.out.size))
                  clear hb7
                  go_wp2
                  go_ret
                  exact ⟨rfl, HZ.out⟩
              · go_wp2_with fail
                refine HLW.out.mono ?_
                rintro e w7 ⟨rfl, hb7⟩
                have HZ := Lib.hid (HB6.out.trans (hb7.mono HB6.out.size))
                clear hb7
                go_wp2
                go_ret
                exact ⟨rfl, HZ.out⟩
          | ok v D5 =>
            rw [expV_ok]
            have HT := Lib.hid (HTW.out.1 v D5 rfl)
            have hvl : v.length ≤ 4096 := by
              have h3 := hxb
              unfold expandM8 at h3
              exact text_len _ h3
            have hcat2 := cat_str a v
            have hx2 : ¬ 9223372036854775807 < (str a).size + (str v).size := by rw [size_str, size_str]; omega
            have hsv : ((str v).size : Int) = (v.length : Int) := by rw [size_str]
            have hwr : IntKind.i64.wrap ((a.length : Int) + (v.length : Int)) = (a.length : Int) + (v.length : Int) := by rw [IntWalk.i64_in _ (by omega)]
            clear hxb HER HTW
            go_wp2_with fail
            refine HXC.out.mono ?_
            rintro e w6 ⟨rfl, hst6, hk6⟩
            have HB6 := Lib.hid (HP5.out.exp hst6 hk6).b
            have HLW := Lib.hid (HLV.out w6 HB6.out)
            clear hst6 hk6 HXC
            rw [show (Xp.ok v D5).D = D5 from rfl, HT.out]
            by_cases hbig : 4096 < a.length + v.length
            · rw [if_pos hbig, expV_bad]
              have hbI : (4096 : Int) < (a.length : Int) + (v.length : Int) := by omega
              go_wp2_with fail
              refine HLW.out.mono ?_
              rintro e w7 ⟨rfl, hb7⟩
              have HZ := Lib.hid (HB6.out.trans (hb7.mono HB6.out.size))
              clear hb7
              go_wp2
              go_ret
              exact ⟨rfl, HZ.out⟩
            · rw [if_neg hbig, expV_ok]
              have hsf : ((str (a ++ v)).toList == (str (a ++ v)).toList) = true := by simp
              go_wp2_with fail
              refine HLW.out.mono ?_
              rintro e w7 ⟨rfl, hb7⟩
              have HZ := Lib.hid (HB6.out.trans (hb7.mono HB6.out.size))
              clear hb7
              go_wp2
              go_ret
              exact ⟨rfl, HZ.out⟩

theorem laid_met_PropPlain (os : Os) : laidMet Try.prog Rows.propPlainRow.laid ((laidWorld #[.slice none 0 0, .string .empty, .string .empty] os).forCall (fun _ _ => 0) ⟨#[], #[.slice none 0 0, .string .empty, .string .empty], []⟩).memory :=
  laidMet_of_run' 8 (by kernel_rfl) (by kernel_rfl)
theorem reads_PropPlain (os : Os) {H : Type} (enc : TypeId × Value → H) : ∃ places, DataW.whole enc Try.prog ((laidWorld #[.slice none 0 0, .string .empty, .string .empty] os).forCall (fun _ _ => 0) ⟨#[], #[.slice none 0 0, .string .empty, .string .empty], []⟩).memory Try.f7.params.toList Rows.propPlainSpec.vars false (#[.slice none 0 0, .string .empty, .string .empty] : Array Value).toList 8 = some ([.nil, .lit (.string []), .lit (.string [])], [], places) :=
  ⟨[], by kernel_rfl⟩
set_option maxRecDepth 100000 in
theorem lifted_PropPlain (os : Os) (started : os.Started) (H : Type) (enc : TypeId × Value → H) (F : Stop.Interp) :
    ReturnsInHanded {} Try.checked os 7 .any ((OpenSpec.ofChange Rows.propPlainSpec).preRow enc Try.prog Try.f7 Rows.propPlainRow.domain false Rows.propPlainRow.laid) (((OpenSpec.ofChange Rows.propPlainSpec).at F).post enc Try.prog Try.f7 false true false false) := by
  obtain ⟨places, hx⟩ := reads_PropPlain os enc
  refine returnsInHanded_of_row (C := Try.checked) (s := OpenSpec.ofChange Rows.propPlainSpec) own_knob started (by kernel_rfl) Try.func7
    (witness_row_at (enc := enc) (C := Try.checked) false (laidWorld #[.slice none 0 0, .string .empty, .string .empty] os) #[.slice none 0 0, .string .empty, .string .empty] rfl (by kernel_rfl) (by kernel_rfl) (by kernel_rfl)
      (OpenSpec.preRow_of_cond 8 hx (by kernel_rfl) (fun k hk => by cases hk) (by kernel_rfl) (laid_met_PropPlain os))) ?_
  intro W base args ds gs before hval0 hW _ _ _ _ hsh _
  have hval : ∀ (j : Nat) t v, Try.f7.params[j]? = some t → args[j]? = some v → Value.okWide Try.prog W .any base t v := hval0
  obtain ⟨m, hm⟩ := maxLen_cell W hsh
  have hW' := hW
  obtain ⟨p, q, hA0, hV, rfl, _, _⟩ := hW
  have hA : DataW.TrodAll enc Try.prog W 0 (fun _ => true) true Try.f7.params.toList args.toList ds p := hA0
  rw [Try.params7] at hA hval
  obtain ⟨v0, vs0, d0, ds0, p0, q0, hargs, rfl, rfl, h0, r0⟩ := trodAll_cons hA
  obtain ⟨v1, vs1, d1, ds1, p1, q1, rfl, rfl, rfl, h1, r1⟩ := trodAll_cons r0
  obtain ⟨v2, vs2, d2, ds2, p2, q2, rfl, rfl, rfl, h2, r2⟩ := trodAll_cons r1
  obtain ⟨rfl, rfl, rfl⟩ := trodAll_nil r2
  obtain rfl : args = #[v0, v1, v2] := by cases args; simp_all
  obtain ⟨rfl, rfl⟩ := trodVars_none hV
  obtain ⟨l0, g0, w0⟩ := open_props (hval 0 27 v0 rfl rfl) h0
  obtain ⟨a1, rfl, rfl, rfl, w1⟩ := open_string Try.underlying9 (hval 1 9 v1 rfl rfl) h1
  obtain ⟨a2, rfl, rfl, rfl, w2⟩ := open_string Try.underlying9 (hval 2 9 v2 rfl rfl) h2
  clear hA0 hval0
  refine (walk_PropPlain W m hm v0 l0 g0 w0 a1 (by unfold maxLen at w1; exact w1) a2 (by unfold maxLen at w2; exact w2)).mono fun e W' ⟨he, hb⟩ => ?_
  subst he
  exact ⟨_, rfl, law_post (by kernel_rfl) rfl rfl rfl hW' hb⟩
/-- the statement of PropPlain -/
theorem proved_PropPlain : Rows.PropPlainSaid :=
  OpenClaim.holds_of_cond 7 Try.f7 rfl rfl rfl rfl rfl rfl rfl ⟨rfl, rfl, rfl, rfl, rfl⟩ rfl rfl rfl rfl rfl (by kernel_rfl) Try.func7 (by kernel_rfl)
    (of_decide_eq_true (by kernel_rfl)) (by unfold Func.isWrapper; first | (rw [if_pos (by decide +kernel)]; kernel_rfl) | (rw [if_neg (by decide +kernel)]; exact ⟨rfl, rfl⟩))
    (fun os started H enc _ F => by rw [OpenClaim.pre_eq_preRow]; exact lifted_PropPlain os started H enc F)
end Go.Proofs.Ythfholnnkdoagaa
