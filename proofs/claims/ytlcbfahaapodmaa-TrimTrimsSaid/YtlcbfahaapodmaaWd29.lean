/-
  Layer 29: wider. Own work.
-/
import Derived.Test.YtlcbfahaapodmaaCr29
namespace Go.Proofs.Ytlcbfahaapodmaa
set_option linter.unusedVariables false
set_option linter.unusedSimpArgs false
open Go.RowKit

def topT : Tw → Prop := fun t => t = .top
/-- the clauses in which the first clause's literal stood -/
def lstC (S : Ws) : List Nat := S.st (posN S.vars S.lit)
/-- no clause at places from a to b of this list is covered by the first one -/
def NoC (S : Ws) (a b : Nat) : Prop := ∀ j k, a ≤ j → j < b → (lstC S)[j]? = some k → S.G.getD k false = false → coversW S S.first k = false
/-- what wider says -/
def WiderR (S : Ws) (o : Option Nat) (nx : Nat) : Prop := match o with
  | some k => S.G.getD S.first false = false ∧ S.G.getD k false = false ∧ coversW S S.first k = true ∧ ∃ j, nx = j + 1 ∧ S.next ≤ j ∧ (lstC S)[j]? = some k ∧ NoC S S.next j
  | none => S.G.getD S.first false = true ∧ nx = S.next ∨ S.G.getD S.first false = false ∧ (lstC S).length ≤ nx ∧ S.next ≤ nx ∧ NoC S S.next nx
section
variable {w : World} {n0 : Nat} {M : Wm} {S : Ws} {ex : Tw → Prop}
set_option maxHeartbeats 4000000 in
set_option maxRecDepth 100000 in
theorem wider29_any (h : KW w n0 M S noW) (hgd : Gd S) (hst : StI S) (hm : MkOk S) (hs : S.sg = S.L.map (sgnM S.vars)) (hnd : ∀ c ∈ alive S.L S.G, c.Nodup) (hf : S.first < S.L.length) (hl : S.lit ∈ S.L.getD S.first []) (hnx : S.next ≤ 1000000) :
    Calls Try.prog 41 #[.pointer (some ⟨M.K, 0, none⟩)] w fun e w' => ∃ o nx, e = .returned (.tuple #[nV (o.getD 0), .bool o.isSome]) ∧ WiderR S o nx ∧ KW w' n0 M { S with next := nx } noW ∧ FrW M M topT w w' := by
  have hno : ∀ t, ¬ noW t := fun t h => h
  have hL6 : S.L.length ≤ 1000000 := Nat.le_trans (size_len _) hgd.size
  obtain ⟨c, hc⟩ : ∃ c, S.L[S.first]? = some c := ⟨_, List.getElem?_eq_getElem hf⟩
  obtain ⟨b, hb⟩ : ∃ b, S.G[S.first]? = some b := ⟨_, List.getElem?_eq_getElem (by rw [hgd.gl]; exact hf)⟩
  obtain ⟨g2, cap2, f1, f2, f3, _⟩ := h.goneAt (hno _) hb
  have hc2 := h.cGon (hno _)
  have hc10 := h.cFirst (hno _)
  rw [f1] at hc2
  have hgI : (S.first : Int) < (S.G.length : Int) := by have := hgd.gl; omega
  have hGI : (S.G.length : Int) ≤ 1000000 := by have := hgd.gl; omega
  have HK := Lib.hid h
  have HG := Lib.hid hgd
  have HB := Lib.hid hb
  cases b with
  | true =>
    have HR := Lib.hid (show WiderR S none S.next from .inl ⟨by rw [List.getD, hb]; rfl, rfl⟩)
    clear h hgd hb hst hm hs hnd hl
    go_enter Try.func41, Try.ntmps41
    go_upto_region 2 with fail
    go_quiet (fail)
    go_wp2
    go_ret2
    exact ⟨none, S.next, rfl, HR.out, HK.out.drewN _, (FrW.refl _ _ _).drewN _⟩
  | false =>
    have hgF : S.G.getD S.first false = false := by rw [List.getD, hb]; rfl
    have hlc : S.lit ∈ c := by simpa [List.getD, hc] using hl
    have hx2 := hgd.lits c (List.mem_of_getElem? hc) _ hlc
    have hv6 := hgd.vars
    obtain ⟨a1, ha1⟩ : ∃ a1 : Nat, S.lit + (S.vars : Int) = (a1 : Int) := ⟨(S.lit + (S.vars : Int)).toNat, by omega⟩
    have hpa : posN S.vars S.lit = a1 := by unfold posN; rw [ha1]; simp
    have HA1 := Lib.hid (fun W (h : KW W n0 M S noW) q => at29_any (h.drewN q) (hno _) S.lit a1 ha1 (by omega))
    obtain ⟨gs, cs, s1, s2, s3, _, _, sa, sc, ss⟩ := h.stand (hno _) (hno _) (a := a1) (by unfold wide; omega)
    have hc7 := h.cStd (hno _)
    rw [s1] at hc7
    rw [ss] at s2
    have hc11 := h.cLit (hno _)
    have haI : (a1 : Int) < ((wide S : Nat) : Int) := by unfold wide; omega
    have hwI : ((wide S : Nat) : Int) ≤ 1000000 := by unfold wide; omega
    have HST := Lib.hid hst
    have HL := Lib.hid (show lstC S = S.st a1 ∧ (S.st a1).length ≤ 1000000 from ⟨by unfold lstC; rw [hpa], Nat.le_trans (hst.stLen a1) hL6⟩)
    have HSS := Lib.hid ss
    have HNX0 := Lib.hid hnx
    have HS1 := Lib.hid s1
    have HM := Lib.hid hm
    have HSG := Lib.hid hs
    have HND := Lib.hid hnd
    have HC := Lib.hid hc
    have HAW := Lib.hid (show a1 < wide S from by unfold wide; omega)
    have HGF := Lib.hid hgF
    have hll := HL.out.2
    clear h hgd hst hm hs hnd hl hb hc hlc hx2 ha1 hpa s1 ss hgF hnx
    generalize hwd : wide S = wd at hc7 haI hwI
    clear hwd
    generalize hld : (S.st a1).length = ld at s2 hll
    have HLD := Lib.hid hld
    clear hld
    go_enter Try.func41, Try.ntmps41
    go_upto_region 2 with fail
    go_quiet (fail)
    generalize hW1 : w.drewN _ = W1
    have HKW := Lib.hid (show KW W1 n0 M S noW from by rw [← hW1]; exact HK.out.drewN _)
    have HFW := Lib.hid (show FrW M M topT w W1 from by rw [← hW1]; exact (FrW.refl _ _ _).drewN _)
    have hd7 := hc7
    have hd11 := hc11
    have t2 := s2
    rw [show w.cell? ⟨M.K, 7, none⟩ = W1.cell? ⟨M.K, 7, none⟩ from by rw [← hW1]; rfl] at hd7
    rw [show w.cell? ⟨M.K, 11, none⟩ = W1.cell? ⟨M.K, 11, none⟩ from by rw [← hW1]; rfl] at hd11
    rw [show w.cell? ⟨gs, a1, none⟩ = W1.cell? ⟨gs, a1, none⟩ from by rw [← hW1]; rfl] at t2
    clear hW1
    go_upto_region 4 with fail
    go_quiet ((go_at_call 34; with_reducible exact Calls.quiet_of_same (HA1.out W1 HKW.out _)))
    go_wp2_with fail
    go_loopw [6] (fun q wr => ∃ nx : Nat, S.next ≤ nx ∧ NoC S S.next nx ∧ KW wr n0 M { S with next := nx } noW ∧ FrW M M topT w wr) (fun _ wr => ld - (intOf ((wr.cell? ⟨M.K, 12, none⟩).getD (.int .i64 0))).toNat)
    case atStart => exact ⟨S.next, by omega, fun j k h1 h2 => by omega, HKW.out.drewN _, HFW.out.drewN _⟩
    case round =>
      obtain ⟨nx, hnx, hnc, hkk, hff⟩ := hrel
      have HNC := Lib.hid hnc
      have hq12 : wr.cell? ⟨M.K, 12, none⟩ = some (.int .i64 (nx : Int)) := hkk.cNext (hno _)
      have hf12 := hkk.froz (hno _) 12
      have HKK := Lib.hid hkk
      have HFF := Lib.hid hff
      clear hff
      by_cases hlt : nx < ld
      · obtain ⟨k, hkx⟩ : ∃ k, (S.st a1)[nx]? = some k := ⟨_, List.getElem?_eq_getElem (by have := HLD.out; omega)⟩
        have hst2 := HKK.out.stand (hno _) (hno _) (a := a1) HAW.out
        obtain ⟨_, _, _, _, _, _, hrd, _⟩ := hst2
        have hrd : Reads wr nV (M.hd (.st a1)) (S.st a1) := hrd
        rw [HSS.out] at hrd
        obtain ⟨b1, rfl, hxc⟩ := reads_elem hrd hkx
        have hxc' : wr.cell? (b1.add nx) = some (.int .i64 (k : Int)) := hxc
        have hkL : k < S.L.length := HST.out.lt a1 k (List.mem_of_getElem? hkx)
        obtain ⟨d, hd⟩ : ∃ d, S.L[k]? = some d := ⟨_, List.getElem?_eq_getElem hkL⟩
        obtain ⟨gb, hgb⟩ : ∃ gb, S.G[k]? = some gb := ⟨_, List.getElem?_eq_getElem (by have := HG.out.gl; omega)⟩
        have hkN := hkk.setTop (S' := { S with next := nx + 1 }) (hno _) 12 (.int .i64 ((nx : Int) + 1)) id rfl (fun s hs _ => by cases s <;> rfl)
        have hfN : FrW M M topT w (wr.setCell ⟨M.K, 12, none⟩ (.int .i64 ((nx : Int) + 1))) := HFF.out.trans (FrW.put (ts := topT) _ M _ _ HKK.out.tK)
        have hw1 : IntKind.i64.wrap ((nx : Int) + 1) = (nx : Int) + 1 := IntWalk.i64_in _ ⟨by omega, by omega⟩
        have hkI : (k : Int) < (S.G.length : Int) := by have := HG.out.gl; omega
        have HKX := Lib.hid (show (lstC S)[nx]? = some k from by rw [HL.out.1]; exact hkx)
        have HGB := Lib.hid hgb
        have HD := Lib.hid hd
        have HKN := Lib.hid hkN
        have HFN := Lib.hid hfN
        have hnI : (nx : Int) < (ld : Int) := by omega
        clear hkk hrd hkx hxc hd hgb hkN hfN hnc
        go_upto_region 8 with fail
        generalize hW2 : wr.setCell ⟨M.K, 12, none⟩ (.int .i64 ((nx : Int) + 1)) = W2 at HKN HFN ⊢
        clear hW2
        have hk2 := HKN.out
        have hr2 : W2.cell? ⟨M.K, 2, none⟩ = some (.slice (some ⟨g2, 0, none⟩) S.G.length cap2) := (hk2.cGon (hno _)).trans (by rw [f1])
        have hr10 : W2.cell? ⟨M.K, 10, none⟩ = some (.int .i64 (S.first : Int)) := hk2.cFirst (hno _)
        obtain ⟨gg, gc, v1, v2, v3, _⟩ := hk2.goneAt (hno _) (i := k) (b := gb) HGB.out
        have v1 : M.hd .gon = .slice (some ⟨gg, 0, none⟩) S.G.length gc := v1
        rw [f1] at v1
        cases v1
        have HQ12 := Lib.hid hq12
        clear hq12 hf12 hxc' hkL
        cases gb with
        | true =>
          have HNC2 := Lib.hid (show NoC S S.next (nx + 1) from fun j m h1 h2 h3 h4 => by
            by_cases hj : j < nx
            · exact HNC.out j m h1 hj h3 h4
            · have : j = nx := by omega
              subst this
              rw [HKX.out] at h3
              cases h3
              rw [List.getD, HGB.out] at h4
              cases h4)
          have hms := hk2.cNext (hno _)
          clear hk2
          go_wp2
          go_round
          case rel => exact ⟨nx + 1, by omega, HNC2.out, HKN.out, HFN.out⟩
          case measure =>
            rw [hms, HQ12.out]
            simp [intOf]; omega
        | false =>
          have HCV := Lib.hid (covers29_any hk2 (S := { S with next := nx + 1 }) (k := k) (c := c) (d := d) ⟨HG.out.gl, HG.out.vars, HG.out.lits, HG.out.size, HG.out.cnt⟩ ⟨HM.out.len, HM.out.mks⟩ HSG.out HC.out HD.out (HND.out c (alive_mem.2 ⟨_, HC.out, HB.out⟩)) (HND.out d (alive_mem.2 ⟨_, HD.out, HGB.out⟩)))
          have hcv : coversW { S with next := nx + 1 } S.first k = coversW S S.first k := rfl
          clear hk2
          have hms := fun m => (HKN.out.drewN m).cNext (hno _)
          by_cases hcw : coversW S S.first k = true
          · rw [hcw] at hcv
            have HR := Lib.hid (show WiderR S (some k) (nx + 1) from ⟨HGF.out, by rw [List.getD, HGB.out]; rfl, hcw, nx, rfl, hnx, HKX.out, HNC.out⟩)
            go_wp2_with fail
            refine HCV.out.mono ?_
            rintro e w3 ⟨rfl, m, rfl⟩
            rw [hcv]
            go_wp2
            go_ret2
            exact ⟨some k, nx + 1, rfl, HR.out, HKN.out.drewN _, HFN.out.drewN _⟩
          · have hcw : coversW S S.first k = false := by simpa using hcw
            rw [hcw] at hcv
            have HNC2 := Lib.hid (show NoC S S.next (nx + 1) from fun j m h1 h2 h3 h4 => by
              by_cases hj : j < nx
              · exact HNC.out j m h1 hj h3 h4
              · have : j = nx := by omega
                subst this
                rw [HKX.out] at h3
                cases h3
                exact hcw)
            clear hcw
            go_wp2_with fail
            refine HCV.out.mono ?_
            rintro e w3 ⟨rfl, m, rfl⟩
            rw [hcv]
            have hmm := hms m
            go_wp2_with fail
            go_round
            case rel => exact ⟨nx + 1, by omega, HNC2.out, HKN.out.drewN _, HFN.out.drewN _⟩
            case measure =>
              rw [hmm, HQ12.out]
              simp [intOf]; omega
      · have hnI : (ld : Int) ≤ (nx : Int) := by omega
        have HR := Lib.hid (show WiderR S none nx from .inr ⟨HGF.out, by rw [HL.out.1, HLD.out]; omega, hnx, HNC.out⟩)
        clear hkk hnc
        go_wp2
        go_ret2
        exact ⟨none, nx, rfl, HR.out, HKK.out, HFF.out⟩
end
end Go.Proofs.Ytlcbfahaapodmaa
