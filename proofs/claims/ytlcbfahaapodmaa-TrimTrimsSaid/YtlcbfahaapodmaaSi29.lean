/-
  Layer 29: single. Own work.
-/
import Derived.Test.YtlcbfahaapodmaaSg29
namespace Go.Proofs.Ytlcbfahaapodmaa
set_option linter.unusedVariables false
set_option linter.unusedSimpArgs false
open Go.RowKit

theorem cutS_same (n : Int) (S : Ws) (k : Nat) : (cutS n S k).L.length = S.L.length ∧ (cutS n S k).vars = S.vars ∧ (cutS n S k).st = S.st ∧ (cutS n S k).G = S.G ∧ (cutS n S k).pl = S.pl := by
  unfold cutS
  split <;> simp
theorem cutS_sub (n : Int) (S : Ws) (k j : Nat) (c : List Int) (h : (cutS n S k).L[j]? = some c) : ∃ d, S.L[j]? = some d ∧ c.length ≤ d.length ∧ ∀ x ∈ c, x ∈ d := by
  unfold cutS at h
  split at h
  · next hh =>
    by_cases hjk : k = j
    · subst hjk
      have hl : k < S.L.length := by
        have := (List.getElem?_eq_some_iff.1 h).1
        simpa using this
      rw [List.getElem?_set_self hl] at h
      simp only [Option.some.injEq] at h
      refine ⟨S.L.getD k [], by simp [List.getD, hl], ?_, fun x hx => ?_⟩
      · rw [← h, List.length_eraseIdx]
        split <;> omega
      · rw [← h] at hx
        exact List.mem_of_mem_eraseIdx hx
    · rw [List.getElem?_set_ne hjk] at h
      exact ⟨c, h, Nat.le_refl _, fun x hx => hx⟩
  · exact ⟨c, h, Nat.le_refl _, fun x hx => hx⟩
theorem cutS_cn (n : Int) (S : Ws) (k a : Nat) : S.cn a - 1 ≤ (cutS n S k).cn a ∧ (cutS n S k).cn a ≤ S.cn a := by
  unfold cutS
  split
  · simp only
    split <;> omega
  · omega
/-- what the cuts keep -/
structure CutI (T S : Ws) (j : Nat) : Prop where
  ll : S.L.length = T.L.length
  vars : S.vars = T.vars
  st : S.st = T.st
  G : S.G = T.G
  pl : S.pl = T.pl
  sub : ∀ (i : Nat) c, S.L[i]? = some c → ∃ d, T.L[i]? = some d ∧ c.length ≤ d.length ∧ ∀ x ∈ c, x ∈ d
  cn : ∀ a, T.cn a - (j : Int) ≤ S.cn a ∧ S.cn a ≤ T.cn a
theorem CutI.refl (T : Ws) : CutI T T 0 := ⟨rfl, rfl, rfl, rfl, rfl, fun i c h => ⟨c, h, Nat.le_refl _, fun x hx => hx⟩, fun a => by omega⟩
theorem CutI.next {T S : Ws} {j : Nat} (h : CutI T S j) (n : Int) (k : Nat) : CutI T (cutS n S k) (j + 1) := by
  obtain ⟨a1, a2, a3, a4, a5⟩ := cutS_same n S k
  refine ⟨a1.trans h.ll, a2.trans h.vars, a3.trans h.st, a4.trans h.G, a5.trans h.pl, fun i c hc => ?_, fun a => ?_⟩
  · obtain ⟨d, h1, h2, h3⟩ := cutS_sub n S k i c hc
    obtain ⟨e, k1, k2, k3⟩ := h.sub i d h1
    exact ⟨e, k1, by omega, fun x hx => k3 x (h3 x hx)⟩
  · have := cutS_cn n S k a
    have := h.cn a
    omega
def singleS (S : Ws) (n : Int) : Ws := cutsS (-n) { fixS S n with ns := S.ns + 1 } (S.st (posN S.vars (-n)))
def singleAll (S : Ws) : Ws := match firstW S 1 with
  | some i => singleS S ((S.L.getD i []).headD 0)
  | none => S
def sgT : Tw → Prop := fun t => t = .top ∨ t = .fix ∨ t = .gon ∨ t = .cnt ∨ t = .lst
theorem firstW_some {S : Ws} {z i : Nat} (h : firstW S z = some i) : i < S.L.length ∧ (S.L.getD i []).length = z ∧ S.G.getD i false = false := by
  unfold firstW at h
  have h1 := List.find?_some h
  have h2 := List.mem_range.1 (List.mem_of_find?_eq_some h)
  simp only [Bool.and_eq_true, beq_iff_eq, Bool.not_eq_true'] at h1
  exact ⟨h2, h1.1, h1.2⟩
section
variable {w : World} {n0 : Nat} {M : Wm} {S : Ws}
set_option maxHeartbeats 4000000 in
set_option maxRecDepth 100000 in
theorem single29_any (h : KW w n0 M S noW) (hgd : Gd S) (hp : S.pl = true) (hst : ∀ a, ∀ k ∈ S.st a, k < S.L.length) (hsl : ∀ a, (S.st a).length ≤ 1000000) (hfx : S.fx.length ≤ 1000000) (hns : S.ns ≤ 1000000) :
    Calls Try.prog 26 #[.pointer (some ⟨M.K, 0, none⟩)] w fun e w' => e = .returned (.bool (firstW S 1).isSome) ∧ ∃ M', KW w' n0 M' (singleAll S) noW ∧ FrW M M' sgT w w' := by
  have hno : ∀ t, ¬ noW t := fun t h => h
  have hll : S.L.length ≤ 1000000 := Nat.le_trans (size_len _) hgd.size
  have HF := Lib.hid (first29_any h (hno _) (hno _) (hno _) (fun _ => hno _) 1 (by omega) hgd.gl hll)
  cases ho : firstW S 1 with
  | none =>
    rw [ho] at HF
    have HS := Lib.hid (show KW w n0 M (singleAll S) noW from by unfold singleAll; rw [ho]; exact h)
    clear h hgd hst hsl
    go_enter Try.func26, Try.ntmps26
    go_wp2_with fail
    refine HF.out.mono ?_
    rintro e w1 ⟨rfl, hw⟩
    obtain rfl : w = w1 := hw.symm
    go_wp2
    go_ret
    exact ⟨rfl, M, HS.out, FrW.refl _ _ _⟩
  | some i =>
    rw [ho] at HF
    obtain ⟨hi, hl1, hg1⟩ := firstW_some ho
    obtain ⟨n, hcn⟩ : ∃ n, S.L[i]? = some [n] := by
      have e1 : S.L[i]? = some (S.L.getD i []) := by simp [List.getD, hi]
      match hq : S.L.getD i [], hl1 with
      | [n], _ => rw [hq] at e1; exact ⟨n, e1⟩
    have hn := hgd.lits [n] (List.mem_of_getElem? hcn) n (by simp)
    have HSA := Lib.hid (show singleAll S = singleS S n from by unfold singleAll; rw [ho]; simp [List.getD, hcn])
    obtain ⟨g, cap, e1, e2, e3, _, er, ca, cc, es⟩ := h.clause (hno _) (hno _) hcn
    have hc1 := h.cLst (hno _)
    rw [e1] at hc1
    rw [es] at e2 er
    obtain ⟨b1, rfl, hb1⟩ := reads_elem er (k := 0) (x := n) rfl
    rw [show b1.add 0 = b1 from by unfold Addr.add; rw [if_pos rfl]] at hb1
    have hb1' : w.cell? b1 = some (.int .i64 n) := hb1
    have hiI : (i : Int) < (S.L.length : Int) := by omega
    have hlI : (S.L.length : Int) ≤ 1000000 := by omega
    have HFX := Lib.hid (fix29_any h hgd hst hsl hfx n ⟨hn.1, hn.2.1⟩)
    have hgd1 : Gd (fixS S n) := Gd.drops (S := { S with fx := S.fx ++ [n] }) ⟨hgd.gl, hgd.vars, hgd.lits, hgd.size, hgd.cnt⟩ _
    have hsm := dropsS_same { S with fx := S.fx ++ [n] } (S.st (posN S.vars n))
    have hsmns : (fixS S n).ns = S.ns := by
      have : ∀ (l : List Nat) (T : Ws), (dropsS T l).ns = T.ns := fun l T => by
        induction l using snoc_ind with
        | h0 => rfl
        | h1 l k ih =>
          rw [dropsS_snoc]
          unfold dropS
          split
          · exact ih
          · exact ih
      exact this _ _
    have HSM := Lib.hid (show (fixS S n).L = S.L ∧ (fixS S n).vars = S.vars ∧ (fixS S n).st = S.st ∧ (fixS S n).pl = S.pl from ⟨hsm.1, hsm.2.1, hsm.2.2.1, hsm.2.2.2.2.1⟩)
    have HGD := Lib.hid hgd1
    have HST := Lib.hid hst
    have HSL := Lib.hid hsl
    have HSN := Lib.hid hsmns
    have hvv := hgd.vars
    have HP := Lib.hid hp
    have HFi := Lib.hid (show Calls Try.prog 35 #[.pointer (some ⟨M.K, 0, none⟩), .int .i64 ((1 : Nat) : Int)] w (fun e w' => e = .returned (.tuple #[.int .i64 (i : Int), .bool true]) ∧ w' = w) from HF.out)
    have HSZ := Lib.hid hgd.size
    clear h hgd hgd1 hsm hst hsl hcn er es e1 hg1 hl1 ho hsmns hp hb1
    go_enter Try.func26, Try.ntmps26
    go_wp2_with fail
    refine HFi.out.mono ?_
    rintro e w1 ⟨rfl, hw⟩
    obtain rfl : w = w1 := hw.symm
    go_wp2_with fail
    with_reducible refine HFX.out.mono ?_
    rintro e w1 ⟨rfl, M1, hk1, hf1⟩
    have hKK := hf1.K
    have hc6 := hk1.cNs (hno _)
    have hfr6 := hk1.froz (hno _) 6
    rw [hKK] at hc6 hfr6
    rw [HSN.out] at hc6
    have hnsI : (S.ns : Int) ≤ 1000000 := by omega
    have hk2 : KW (w1.setCell ⟨M.K, 6, none⟩ (.int .i64 ((S.ns : Int) + 1))) n0 M1 { fixS S n with ns := S.ns + 1 } noW := by
      have := hk1.setTop (S' := { fixS S n with ns := S.ns + 1 }) (hno _) 6 (.int .i64 ((S.ns : Int) + 1)) (fun e => e) rfl (fun s hs _ => by cases s <;> rfl)
      rw [hKK] at this
      exact this
    have hf2 : FrW M M1 sgT w (w1.setCell ⟨M.K, 6, none⟩ (.int .i64 ((S.ns : Int) + 1))) := (hf1.mono (fun t ht => by rcases ht with h | h | h | h <;> simp [sgT, h])).trans (FrW.put (ts := sgT) w1 M1 _ _ (Or.inl (by rw [← hKK]; exact hk1.tK)))
    have HK2 := Lib.hid hk2
    have HF2 := Lib.hid hf2
    clear hk1 hf1 hk2 hf2
    go_upto_region 7 with fail
    generalize w1.setCell ⟨M.K, 6, none⟩ (.int .i64 ((S.ns : Int) + 1)) = W2 at HK2 HF2 ⊢
    clear hc6 hfr6 hc1 e2 e3 hb1'
    have HKK := Lib.hid hKK
    have HT := Lib.hid (show singleS S n = cutsS (-n) { fixS S n with ns := S.ns + 1 } (S.st (posN S.vars (-n))) from rfl)
    have HTI := Lib.hid (show Gd { fixS S n with ns := S.ns + 1 } from ⟨HGD.out.gl, HGD.out.vars, HGD.out.lits, HGD.out.size, HGD.out.cnt⟩)
    have HTS := Lib.hid (show ({ fixS S n with ns := S.ns + 1 } : Ws).L = S.L ∧ ({ fixS S n with ns := S.ns + 1 } : Ws).vars = S.vars ∧ ({ fixS S n with ns := S.ns + 1 } : Ws).st = S.st ∧ ({ fixS S n with ns := S.ns + 1 } : Ws).pl = S.pl from HSM.out)
    generalize ({ fixS S n with ns := S.ns + 1 } : Ws) = T at HK2 HT HTI HTS
    clear hKK
    obtain ⟨a, ha⟩ : ∃ a : Nat, -n + (S.vars : Int) = (a : Int) := ⟨(-n + (S.vars : Int)).toNat, by omega⟩
    have hpa : posN S.vars (-n) = a := by unfold posN; rw [ha]; simp
    have haw : a < 2 * S.vars + 1 := by omega
    have hvT : T.vars = S.vars := HTS.out.2.1
    have HAT := Lib.hid (fun m => at29_any (HK2.out.drewN m) (hno _) (-n) a (by rw [hvT]; exact ha) (by omega))
    obtain ⟨gs, cs, k1, k2, k3, _, hrd, b, cp, k4⟩ := HK2.out.stand (hno _) (hno _) (a := a) (by unfold wide; rw [hvT]; exact haw)
    have hcs := HK2.out.cStd (hno _)
    rw [k1] at hcs
    rw [HTS.out.2.2.1] at k4 hrd
    rw [k4] at k2 hrd
    rw [HKK.out] at HAT hcs
    have haI : (a : Int) < ((wide T : Nat) : Int) := by unfold wide; rw [hvT]; omega
    have hwI : ((wide T : Nat) : Int) ≤ 1000000 := by unfold wide; rw [hvT]; omega
    have hng : IntKind.i64.wrap (-n) = -n := IntWalk.i64_in _ ⟨by omega, by omega⟩
    have hla := HSL.out a
    have HSTa := Lib.hid (HST.out a)
    have HPA := Lib.hid hpa
    have HAW := Lib.hid (show a < wide T ∧ -n + (T.vars : Int) = (a : Int) ∧ T.st a = S.st a from ⟨by unfold wide; rw [hvT]; exact haw, by rw [hvT]; exact ha, by rw [HTS.out.2.2.1]⟩)
    rw [hpa] at HT
    have HVT := Lib.hid hvT
    clear k1 k3 hrd hpa ha haw hvT
    generalize hSL : S.st a = l at hla k2 HSTa HT HAW k4
    have hlI : (l.length : Int) ≤ 1000000 := by omega
    have HK4 := Lib.hid k4
    clear hSL k4
    generalize hwd : wide T = wd at hcs haI hwI
    have HWD := Lib.hid hwd
    clear hwd
    go_quiet ((first | (go_at_call 34; with_reducible exact Calls.quiet_of_same (HAT.out _))))
    go_wp2_with fail
    go_loopw [46] (fun q wr => ∃ (j : Nat) (M' : Wm), j ≤ l.length ∧ q = .int .i64 j ∧ KW wr n0 M' (cutsS (-n) T (l.take j)) noW ∧ FrW M M' sgT w wr ∧ M'.hd (.st a) = .slice b l.length cp ∧ CutI T (cutsS (-n) T (l.take j)) j) (fun q _ => l.length - (intOf q).toNat)
    case atStart => exact ⟨0, M1, by omega, rfl, HK2.out.drewN _, HF2.out.drewN _, HK4.out, CutI.refl _⟩
    case round =>
      obtain ⟨j, M', hj, rfl, hkk, hff, hhd, hci⟩ := hrel
      by_cases hlt : j < l.length
      · obtain ⟨x, hx⟩ : ∃ x, l[j]? = some x := ⟨_, List.getElem?_eq_getElem hlt⟩
        have HU := Lib.hid (show cutsS (-n) T (l.take (j + 1)) = cutS (-n) (cutsS (-n) T (l.take j)) x from by rw [take_snoc _ j x hx, cutsS_snoc])
        generalize cutsS (-n) T (l.take j) = U at hkk hci HU
        have HCI := Lib.hid hci
        have HCN := Lib.hid (hci.next (-n) x)
        rw [← HU.out] at HCN
        clear hci
        have hK' := hff.K
        obtain ⟨_, _, _, _, _, _, hrw, _⟩ := hkk.stand (hno _) (hno _) (a := a) (by have := HAW.out.1; unfold wide at this ⊢; rw [HCI.out.vars]; exact this)
        rw [hhd, HCI.out.st, HAW.out.2.2] at hrw
        obtain ⟨b1, rfl, hxc⟩ := reads_elem hrw hx
        have hxc' : wr.cell? (b1.add j) = some (.int .i64 (x : Int)) := hxc
        have hxl : x < U.L.length := by rw [HCI.out.ll, HTS.out.1]; exact HSTa.out x (List.mem_of_getElem? hx)
        have hul : U.L.length ≤ 1000000 := by rw [HCI.out.ll, HTS.out.1]; exact hll
        have hug : U.G.length = U.L.length := by rw [HCI.out.G, HCI.out.ll]; exact HTI.out.gl
        obtain ⟨c, hcx⟩ : ∃ c, U.L[x]? = some c := ⟨_, List.getElem?_eq_getElem hxl⟩
        obtain ⟨bb, hbb⟩ : ∃ bb, U.G[x]? = some bb := ⟨_, List.getElem?_eq_getElem (by omega)⟩
        obtain ⟨gl, capl, e1, e2, e3, e4, er, ca, cc, es⟩ := hkk.clause (hno _) (hno _) hcx
        obtain ⟨gg, capg, f1, f2, f3, _⟩ := hkk.goneAt (hno _) hbb
        have hc1 := hkk.cLst (hno _)
        have hc2 := hkk.cGon (hno _)
        rw [hK', e1] at hc1
        rw [hK', f1] at hc2
        rw [hug] at hc2
        rw [es] at e2 er
        have HIX := Lib.hid (index29_any _ c (-n) wr er)
        have hcl : c.length ≤ 1000000 := by
          obtain ⟨d, h1, h2, _⟩ := HCI.out.sub x c hcx
          have h3 := size_mem (List.mem_of_getElem? h1)
          have h4 := HSZ.out
          rw [HTS.out.1] at h3
          omega
        have hxI : (x : Int) < (U.L.length : Int) := by omega
        have hulI : (U.L.length : Int) ≤ 1000000 := by omega
        have hjI : (j : Int) < (l.length : Int) := by omega
        have HX := Lib.hid hcx
        have HBB := Lib.hid hbb
        have HKW := Lib.hid hkk
        have HFF := Lib.hid hff
        have HHD := Lib.hid hhd
        have HK' := Lib.hid hK'
        have HES := Lib.hid es
        have HE1 := Lib.hid e1
        clear hx hrw hxc hxl hug hcx hbb er f1 hkk hff hhd hK' es e1
        by_cases hmem : -n ∈ c
        · cases bb with
          | false =>
            have hix : indexM c (-n) = ((c.idxOf (-n) : Nat) : Int) := by unfold indexM; rw [if_pos hmem]
            rw [hix] at HIX
            have hpl : c.idxOf (-n) < c.length := List.idxOf_lt_length_iff.2 hmem
            have HUU := Lib.hid (show cutsS (-n) T (l.take (j + 1)) = { U with L := U.L.set x (c.eraseIdx (c.idxOf (-n))), cn := fun b => if b = a then U.cn b - 1 else U.cn b } from by
              rw [HU.out]
              unfold cutS
              rw [if_pos (by simp [List.getD, HX.out, HBB.out, hmem])]
              have e6 : posN U.vars (-n) = a := by rw [HCI.out.vars, HVT.out]; exact HPA.out
              rw [e6]
              simp [List.getD, HX.out])
            have hpI : (0 : Int) ≤ ((c.idxOf (-n) : Nat) : Int) := by omega
            clear hix hmem
            generalize c.idxOf (-n) = p at HIX hpI hpl HUU
            have hkd := HKW.out.drew
            have hrd := (hkd.row (.cl x) rfl (hno _)).rd
            have hct : ctW U M'.hd (.cl x) = c.map iV := by
              show (U.L.getD x []).map iV = _
              rw [List.getD, HX.out]; rfl
            rw [hct] at hrd
            obtain ⟨gc, capc, es2, hgc0, hlec, hcmc, hcells⟩ : ∃ gc capc, M'.hd (.cl x) = .slice (some ⟨gc, 0, none⟩) c.length capc ∧ n0 ≤ gc ∧ c.length ≤ capc ∧ capc ≤ maxLen ∧ ∀ (q : Nat) y, c[q]? = some y → wr.drew.cell? ⟨gc, q, none⟩ = some (iV y) ∧ wr.drew.frozen? ⟨gc, q, none⟩ = false := by
              rcases hrd with ⟨_, h0⟩ | ⟨gc, capc, k1, k2, k3, k4, k5⟩
              · rw [List.map_eq_nil_iff.1 h0] at hpl
                simp at hpl
              · refine ⟨gc, capc, by rw [k1, List.length_map], k2, by rw [List.length_map] at k3; exact k3, k4, fun q y hy => k5 q _ (by rw [List.getElem?_map, hy]; rfl)⟩
            rw [HES.out] at es2
            cases es2
            have hc1d : wr.drew.cell? ⟨M.K, 1, none⟩ = some (.slice (some ⟨gl, 0, none⟩) U.L.length capl) := hc1
            have e2d : wr.drew.cell? ⟨gl, x, none⟩ = some (.slice (some ⟨gc, 0, none⟩) c.length cc) := e2
            have HWO := Lib.hid ((without29_any (w := wr.drew) (n0 := n0) hpl hlec (by unfold maxLen at hcmc; exact hcmc) hcells hcl hkd.base hgc0).mono (R' := fun e w4 => ∃ b' c', e = .returned (.slice b' (c.length - 1) c') ∧ w4.cell? ⟨M.K, 1, none⟩ = some (.slice (some ⟨gl, 0, none⟩) U.L.length capl) ∧ w4.frozen? ⟨gl, x, none⟩ = false ∧ w4.cell? ⟨gl, x, none⟩ = some (.slice (some ⟨gc, 0, none⟩) c.length cc) ∧
              RdO w4 n0 3 (.slice b' (c.length - 1) c') ((c.eraseIdx p).map iV) ∧ wr.drew.grownBy w4 none ∧ (b' = some ⟨gc, 0, none⟩ ∨ ∃ q, b' = some ⟨q, 0, none⟩ ∧ wr.drew.heap.size ≤ q ∧ q < w4.heap.size)) (fun e w4 h => by
                obtain ⟨b', c', h1, h2, h3, h4⟩ := h
                refine ⟨b', c', h1, h3.cell hc1d (by simp), ?_, h3.cell e2d (by simp), h2, h3, h4⟩
                obtain ⟨gx, cx, k1, _, k3, _⟩ := (hkd.keep0 h3).clause (hno _) (hno _) HX.out
                rw [HE1.out] at k1
                cases k1
                exact k3))
            have HKD := Lib.hid hkd
            clear hkd hrd hct hcells hgc0
            go_wp2_with fail
            refine HIX.out.mono ?_
            rintro e w3 ⟨rfl, hw⟩
            obtain rfl : wr = w3 := hw.symm
            go_upto_region 12 with fail
            go_region_with (go_at_call 38; with_reducible refine HWO.out.mono ?_; rintro e w4 ⟨b', c', rfl, hq1, hq3, hq2, hr4, hg4, hat4⟩)
            all_goals
              have hnew := HKD.out.newCl (by rw [HCI.out.pl, HTS.out.2.2.2]; exact HP.out) (k := x) (d := c.eraseIdx p) HX.out (fun e => by have := hpl; rw [e] at this; simp at this) HE1.out hg4 hr4 (by
                rw [HES.out]
                rcases hat4 with h | ⟨q, h, h1, h2⟩
                · exact .inl (by rw [h]; rfl)
                · exact .inr ⟨q, by rw [h]; rfl, h1, h2⟩)
              obtain ⟨f, hk5, hf5⟩ := hnew
              have hhd5 : (⟨M'.K, putH M'.hd (.cl x) (.slice b' (c.length - 1) c'), f⟩ : Wm).hd (.st a) = .slice (some b1) l.length cp := (putH_ne (t := .cl x) (s := .st a) M'.hd (.slice b' (c.length - 1) c') (by simp)).trans HHD.out
              have hK5 : (⟨M'.K, putH M'.hd (.cl x) (.slice b' (c.length - 1) c'), f⟩ : Wm).K = M.K := HK'.out
              generalize (⟨M'.K, putH M'.hd (.cl x) (.slice b' (c.length - 1) c'), f⟩ : Wm) = M5 at hk5 hf5 hhd5 hK5
              generalize w4.setCell ⟨gl, x, none⟩ (.slice b' (c.length - 1) c') = W5 at hk5 hf5 ⊢
              have HF5 := Lib.hid (HFF.out.drew.trans (hf5.mono (us := sgT) (fun t ht => by simp [sgT, ht])))
              have hkd5 := hk5.drew
              have HA5 := Lib.hid (at29_any hkd5 (hno _) (-n) a (by show -n + (U.vars : Int) = a; rw [HCI.out.vars]; exact HAW.out.2.1) (by have := HAW.out.1; have := HWD.out; omega))
              have haw5 : a < wide ({ U with L := U.L.set x (c.eraseIdx p) } : Ws) := by
                have := HAW.out.1
                unfold wide at this ⊢
                show a < 2 * U.vars + 1
                rw [HCI.out.vars]; exact this
              obtain ⟨g5, cap5, m1, m2, m3, m4⟩ := hkd5.cntAt (hno _) (a := a) haw5
              have hcc5 := hkd5.cCnt (hno _)
              rw [m1] at hcc5
              rw [hK5] at HA5 hcc5
              have hz5 : -2000000 ≤ U.cn a ∧ U.cn a ≤ 1000000 := by
                have h1 := HCI.out.cn a
                have h2 := HTI.out.cn a
                omega
              have m2' : W5.drew.cell? ⟨g5, a, none⟩ = some (.int .i64 (U.cn a)) := m2
              have HKN := Lib.hid (show KW (W5.drew.setCell ⟨g5, a, none⟩ (.int .i64 (U.cn a - 1))) n0 M5 (cutsS (-n) T (l.take (j + 1))) noW from by
                rw [HUU.out]
                exact hkd5.count (hno _) m1 (f := fun b => if b = a then U.cn b - 1 else U.cn b) (fun b => by
                  by_cases hb : b = a
                  · subst hb; simp
                  · simp [hb]))
              have HFN := Lib.hid (show FrW M M5 sgT w (W5.drew.setCell ⟨g5, a, none⟩ (.int .i64 (U.cn a - 1))) from HF5.out.drew.trans (FrW.put (ts := sgT) _ M5 _ _ (Or.inr (Or.inr (Or.inr (Or.inl m4))))))
              have HH5 := Lib.hid hhd5
              have haI5 : (a : Int) < ((wide ({ U with L := U.L.set x (c.eraseIdx p) } : Ws) : Nat) : Int) := by omega
              have hwI5 : ((wide ({ U with L := U.L.set x (c.eraseIdx p) } : Ws) : Nat) : Int) ≤ 1000000 := by
                unfold wide
                show ((2 * U.vars + 1 : Nat) : Int) ≤ 1000000
                rw [HCI.out.vars, HVT.out]
                omega
              have hzw : IntKind.i64.wrap (U.cn a - 1) = U.cn a - 1 := IntWalk.i64_in _ ⟨by omega, by omega⟩
              clear hk5 hf5 hhd5 hK5 hkd5 haw5 m1 m2 hat4 hr4 hg4 hq1 hq2 hq3
              generalize wide ({ U with L := U.L.set x (c.eraseIdx p) } : Ws) = wd5 at hcc5 haI5 hwI5
              generalize U.cn a = z5 at m2' hz5 HKN HFN hzw
              go_wp2_with fail
              go_region_with (go_at_call 34; with_reducible refine HA5.out.mono ?_; rintro e w' ⟨rfl, rfl⟩)
              all_goals
                go_wp2_with fail
                go_round
                case rel => exact ⟨j + 1, M5, by omega, by go_num, HKN.out, HFN.out, HH5.out, HCN.out⟩
                case measure => simp [intOf]; omega
          | true =>
            have hix : indexM c (-n) = ((c.idxOf (-n) : Nat) : Int) := by unfold indexM; rw [if_pos hmem]
            rw [hix] at HIX
            have hpI : (0 : Int) ≤ ((c.idxOf (-n) : Nat) : Int) := by omega
            have HN := Lib.hid (show KW wr n0 M' (cutsS (-n) T (l.take (j + 1))) noW from by
              rw [HU.out]
              unfold cutS
              rw [if_neg (by simp [List.getD, HBB.out])]
              exact HKW.out)
            clear hix hmem
            generalize c.idxOf (-n) = p at HIX hpI
            go_wp2_with fail
            refine HIX.out.mono ?_
            rintro e w3 ⟨rfl, hw⟩
            obtain rfl : wr = w3 := hw.symm
            go_wp2_with fail
            go_round
            case rel => exact ⟨j + 1, M', by omega, by go_num, HN.out, HFF.out, HHD.out, HCN.out⟩
            case measure => simp [intOf]; omega
        · have hix : indexM c (-n) = -1 := by unfold indexM; rw [if_neg hmem]
          rw [hix] at HIX
          have HN := Lib.hid (show KW wr n0 M' (cutsS (-n) T (l.take (j + 1))) noW from by
            rw [HU.out]
            unfold cutS
            rw [if_neg (by simp [List.getD, HX.out, hmem])]
            exact HKW.out)
          clear hix hmem
          go_wp2_with fail
          refine HIX.out.mono ?_
          rintro e w3 ⟨rfl, hw⟩
          obtain rfl : wr = w3 := hw.symm
          go_wp2_with fail
          go_round
          case rel => exact ⟨j + 1, M', by omega, by go_num, HN.out, HFF.out, HHD.out, HCN.out⟩
          case measure => simp [intOf]; omega
      · have hjI : (l.length : Int) ≤ j := by omega
        have HN := Lib.hid (show KW wr n0 M' (singleAll S) noW from by
          rw [HSA.out, HT.out]
          rw [List.take_of_length_le (by omega)] at hkk
          exact hkk)
        have HFN := Lib.hid hff
        clear hkk hff
        go_wp2
        go_ret
        exact ⟨rfl, M', HN.out, HFN.out⟩
end
end Go.Proofs.Ytlcbfahaapodmaa
