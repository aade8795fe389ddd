/-
  Layer 29: hold. Own work.
-/
import Derived.Test.YtlcbfahaapodmaaSn29
namespace Go.Proofs.Ytlcbfahaapodmaa
set_option linter.unusedVariables false
set_option linter.unusedSimpArgs false
open Go.RowKit

def hdT : Tw → Prop := fun t => t = .top ∨ t = .mem
theorem markS_same (S : Ws) (i : Nat) (b : Bool) : markS S i b = { S with mb := (markS S i b).mb } := by
  unfold markS
  split <;> rfl
theorem markS_len (S : Ws) (i : Nat) (b : Bool) : (markS S i b).mb.length = S.mb.length := by
  unfold markS
  split
  · exact markL_len _ _ _ _
  · rfl
theorem markS_out {S : Ws} {i : Nat} {b : Bool} (h : ¬ i < S.L.length) : markS S i b = S := by unfold markS; rw [if_neg h]
theorem markS_L (S : Ws) (i : Nat) (b : Bool) : (markS S i b).L = S.L := by rw [markS_same]
/-- what is marked behind hold -/
def holdB (S : Ws) (r : Nat) : List Bool := (markS (markS S S.first false) r true).mb
/-- behind hold -/
def holdS (S : Ws) (r : Nat) (l : Int) : Ws := { S with first := r, next := 0, lit := l, mb := holdB S r }
/-- the next clause from i on that is there -/
def NextA (S : Ws) (i r : Nat) : Prop := i ≤ r ∧ r ≤ S.L.length ∧ (∀ j, i ≤ j → j < r → S.G.getD j false = true) ∧ (r < S.L.length → S.G.getD r false = false)
section
variable {w : World} {n0 : Nat} {M : Wm} {S : Ws} {ex : Tw → Prop}
set_option maxHeartbeats 4000000 in
set_option maxRecDepth 100000 in
theorem hold29_any (h : KW w n0 M S noW) (hgd : Gd S) (hm : S.mb.length = wide S) (hf : S.first ≤ S.L.length) (hsl : ∀ a, (S.st a).length ≤ 1000000) (hne : ∀ c ∈ alive S.L S.G, c ≠ []) (i : Nat) (hi : i ≤ S.L.length) :
    Calls Try.prog 40 #[.pointer (some ⟨M.K, 0, none⟩), .int .i64 (i : Int)] w fun e w' => e = .returned (.tuple #[]) ∧ ∃ r l, NextA S i r ∧ (r < S.L.length → l ∈ S.L.getD r []) ∧ KW w' n0 M (holdS S r l) noW ∧ FrW M M hdT w w' := by
  have hno : ∀ t, ¬ noW t := fun t h => h
  have hL6 : S.L.length ≤ 1000000 := Nat.le_trans (size_len _) hgd.size
  have hlc : ∀ c ∈ S.L, c.length ≤ 1000000 ∧ ∀ n ∈ c, -(S.vars : Int) ≤ n ∧ n ≤ (S.vars : Int) := fun c hc => ⟨by have := size_mem hc; have := hgd.size; omega, fun n hn => by have := hgd.lits c hc n hn; omega⟩
  have HMK1 := Lib.hid (mark29_any h (hno _) (hno _) (hno _) (fun _ => hno _) S.first false hm hL6 (by omega) hgd.vars hlc)
  have hc10 := h.cFirst (hno _)
  have HK0 := Lib.hid h
  have HG := Lib.hid hgd
  have HLC := Lib.hid hlc
  have HNE := Lib.hid hne
  have HM := Lib.hid hm
  have HSL := Lib.hid hsl
  clear h hlc hne hm hsl
  have hgl := hgd.gl
  clear hgd
  go_enter Try.func40, Try.ntmps40
  go_wp2_with fail
  refine HMK1.out.mono ?_
  rintro e w1 ⟨rfl, hk1, hf1⟩
  obtain ⟨S1, hS1⟩ : ∃ S1, S1 = markS S S.first false := ⟨_, rfl⟩
  rw [← hS1] at hk1
  have HS1 := Lib.hid (show S1 = { S with mb := S1.mb } ∧ S1.mb.length = wide S from by rw [hS1]; exact ⟨markS_same _ _ _, (markS_len _ _ _).trans HM.out⟩)
  have HS1E := Lib.hid hS1
  clear hS1
  have q1 : S1.L = S.L := by rw [HS1.out.1]
  have q2 : S1.G = S.G := by rw [HS1.out.1]
  have q3 : S1.vars = S.vars := by rw [HS1.out.1]
  have q4 : S1.st = S.st := by rw [HS1.out.1]
  have hc1 := hk1.cLst (hno _)
  have hc2 := hk1.cGon (hno _)
  obtain ⟨la, lc, hl0⟩ := hk1.shape (t := .lst) rfl (hno _)
  have e5 : ctW S1 M.hd .lst = (List.range S1.L.length).map fun i => M.hd (.cl i) := rfl
  rw [e5, List.length_map, List.length_range, q1] at hl0
  obtain ⟨ga, gc, hg0⟩ := hk1.shape (t := .gon) rfl (hno _)
  have e6 : ctW S1 M.hd .gon = S1.G.map bV := rfl
  rw [e6, List.length_map, q2] at hg0
  rw [hl0] at hc1
  rw [hg0] at hc2
  have HK1 := Lib.hid hk1
  have HF1 := Lib.hid hf1
  have hLI : (S.L.length : Int) ≤ 1000000 := by omega
  have hGI : (S.G.length : Int) ≤ 1000000 := by omega
  clear hk1 hf1
  go_wp2_with fail
  go_loop [1] (fun q => ∃ k : Nat, q = .int .i64 k ∧ i ≤ k ∧ k ≤ S.L.length ∧ ∀ j, i ≤ j → j < k → S.G.getD j false = true) (fun q => S.L.length - (intOf q).toNat)
  case atStart => exact ⟨i, rfl, by omega, by omega, fun j _ _ => by omega⟩
  case round =>
    obtain ⟨k, rfl, hik, hk, hgo⟩ := hrel
    have HGO := Lib.hid hgo
    clear hgo
    by_cases hlt : k < S.L.length
    · obtain ⟨b, hb⟩ : ∃ b, S.G[k]? = some b := ⟨_, List.getElem?_eq_getElem (by omega)⟩
      obtain ⟨g2, cap2, f1, f2, f3, _⟩ := HK1.out.goneAt (hno _) (i := k) (by rw [q2]; exact hb)
      rw [q2, hg0] at f1
      cases f1
      have hltI : (k : Int) < (S.L.length : Int) := by omega
      have hgI : (k : Int) < (S.G.length : Int) := by omega
      have HB := Lib.hid hb
      clear hb
      cases b with
      | true =>
        have HN := Lib.hid (show ∀ j, i ≤ j → j < k + 1 → S.G.getD j false = true from fun j h1 h2 => by
          by_cases hjk : j < k
          · exact HGO.out j h1 hjk
          · have : j = k := by omega
            subst this
            rw [List.getD, HB.out]; rfl)
        go_wp2
        go_round
        case rel => exact ⟨k + 1, by go_num, by omega, by omega, HN.out⟩
        case measure => simp [intOf]; omega
      | false =>
        have HNX := Lib.hid (show NextA S i k from ⟨hik, hk, HGO.out, fun _ => by rw [List.getD, HB.out]; rfl⟩)
        obtain ⟨c, hc⟩ : ∃ c, S.L[k]? = some c := ⟨_, List.getElem?_eq_getElem hlt⟩
        have hcne := HNE.out c (alive_mem.2 ⟨k, hc, HB.out⟩)
        have hfz := HK1.out.froz (hno _) 10
        have hfz2 := HK1.out.froz (hno _) 12
        have hkA := HK1.out.setTop (S' := { S1 with first := k }) (hno _) 10 (.int .i64 (k : Int)) id rfl (fun s hs _ => by cases s <;> rfl)
        have hkB := hkA.setTop (S' := { S1 with first := k, next := 0 }) (hno _) 12 (.int .i64 0) id rfl (fun s hs _ => by cases s <;> rfl)
        have hfB : FrW M M hdT w ((w1.setCell ⟨M.K, 10, none⟩ (.int .i64 (k : Int))).setCell ⟨M.K, 12, none⟩ (.int .i64 0)) :=
          ((HF1.out.mono (fun t ht => .inr ht)).trans (FrW.put (ts := hdT) _ M _ _ (.inl HK1.out.tK))).trans (FrW.put (ts := hdT) _ M _ _ (.inl HK1.out.tK))
        have hx10 := HK1.out.cFirst (hno _)
        have hx12 := HK1.out.cNext (hno _)
        have HKB := Lib.hid hkB
        have HFB := Lib.hid hfB
        clear hkA hkB hfB
        go_upto_region 5 with fail
        generalize hW2 : (w1.setCell ⟨M.K, 10, none⟩ (.int .i64 (k : Int))).setCell ⟨M.K, 12, none⟩ (.int .i64 0) = W2 at HKB HFB ⊢
        clear hW2
        have hb1 : W2.cell? ⟨M.K, 1, none⟩ = some (.slice la S.L.length lc) := (HKB.out.cLst (hno _)).trans (by rw [hl0])
        obtain ⟨S2, hS2⟩ : ∃ S2 : Ws, S2 = { S1 with first := k, next := 0 } := ⟨_, rfl⟩
        have HKC := Lib.hid (show KW W2 n0 M S2 noW from by rw [hS2]; exact HKB.out)
        have r1 : S2.L = S.L := by rw [hS2]; exact q1
        have r3 : S2.vars = S.vars := by rw [hS2]; exact q3
        have r4 : S2.st = S.st := by rw [hS2]; exact q4
        have HMB := Lib.hid (show S2.mb.length = wide S2 from by unfold wide; rw [r3, hS2]; exact HS1.out.2)
        have HMK2 := Lib.hid (mark29_any HKC.out (hno _) (hno _) (hno _) (fun _ => hno _) k true HMB.out (by rw [r1]; exact hL6) (by omega) (by rw [r3]; exact HG.out.vars) (by rw [r1, r3]; exact HLC.out))
        have HS2 := Lib.hid hS2
        clear hS2 HKB
        go_upto_region 6 with fail
        go_wp2_with fail
        refine HMK2.out.mono ?_
        rintro e w3 ⟨rfl, hk3, hf3⟩
        obtain ⟨S3, hS3⟩ : ∃ S3, S3 = markS S2 k true := ⟨_, rfl⟩
        rw [← hS3] at hk3
        have HSP := Lib.hid (show S3 = { S2 with mb := S3.mb } from by rw [hS3]; exact markS_same _ _ _)
        have HS3 := Lib.hid hS3
        clear hS3
        have t1 : S3.L = S.L := by rw [HSP.out]; exact r1
        have t3 : S3.vars = S.vars := by rw [HSP.out]; exact r3
        have t4 : S3.st = S.st := by rw [HSP.out]; exact r4
        have HT := Lib.hid (show ∀ l, { S3 with lit := l } = holdS S k l from fun l => by
          unfold holdS holdB
          rw [HSP.out, HS3.out, HS2.out, HS1.out.1, HS1E.out]
          unfold markS
          simp only []
          split <;> split <;> rfl)
        obtain ⟨n1, hn1⟩ : ∃ n1, c[0]? = some n1 := by
          cases c with
          | nil => exact absurd rfl hcne
          | cons a c => exact ⟨a, rfl⟩
        have hcL3 : S3.L[k]? = some c := by rw [t1]; exact hc
        obtain ⟨g, cap, e1, e2, e3, _, er, ca, cc, es⟩ := hk3.clause (hno _) (hno _) hcL3
        have ES := Lib.hid es
        rw [hl0, t1] at e1
        cases e1
        rw [es] at e2 er
        obtain ⟨b1, rfl, hxc⟩ := reads_elem er hn1
        have hxc' : w3.cell? b1 = some (.int .i64 n1) := by
          have : b1.add 0 = b1 := by unfold Addr.add; split <;> simp_all
          rw [this] at hxc
          exact hxc
        have hd1 : w3.cell? ⟨M.K, 1, none⟩ = some (.slice (some ⟨g, 0, none⟩) S.L.length lc) := (hk3.cLst (hno _)).trans (by rw [hl0])
        have hd11 := hk3.cLit (hno _)
        have hz11 := hk3.froz (hno _) 11
        have hcl6 := (HLC.out c (List.mem_of_getElem? hc)).1
        have hcI : (c.length : Int) ≤ 1000000 := by omega
        have hc0 : (0 : Int) < (c.length : Int) := by
          have := (List.getElem?_eq_some_iff.1 hn1).1
          omega
        have HKE := Lib.hid (hk3.setTop (S' := { S3 with lit := n1 }) (hno _) 11 (.int .i64 n1) id rfl (fun s hs _ => by cases s <;> rfl))
        have HFE := Lib.hid (show FrW M M hdT w (w3.setCell ⟨M.K, 11, none⟩ (.int .i64 n1)) from (HFB.out.trans (hf3.mono (fun t ht => .inr ht))).trans (FrW.put (ts := hdT) _ M _ _ (.inl hk3.tK)))
        have HN1 := Lib.hid (List.mem_of_getElem? hn1)
        have HC := Lib.hid hc
        clear hk3 hf3 er es hc hn1 hxc hcL3
        go_upto_region 8 with fail
        generalize hW4 : w3.setCell ⟨M.K, 11, none⟩ (.int .i64 n1) = W4 at HKE HFE ⊢
        clear hW4
        have hb1 : W4.cell? ⟨M.K, 1, none⟩ = some (.slice (some ⟨g, 0, none⟩) S.L.length lc) := (HKE.out.cLst (hno _)).trans (by rw [hl0])
        obtain ⟨g', cap', m1, m2, m3, _⟩ := HKE.out.clause (hno _) (hno _) (i := k) (c := c) (by show S3.L[k]? = _; rw [t1]; exact HC.out)
        have m1 : M.hd .lst = .slice (some ⟨g', 0, none⟩) S3.L.length cap' := m1
        rw [hl0, t1] at m1
        cases m1
        rw [ES.out] at m2
        clear hd1 hd11 hz11 e2 e3 hxc' m3
        go_wp2_with fail
        go_loopw [71] (fun q wr => ∃ j : Nat, ∃ l : Int, j ≤ c.length ∧ q = .int .i64 j ∧ l ∈ c ∧ KW wr n0 M { S3 with lit := l } noW ∧ FrW M M hdT w wr) (fun q _ => c.length - (intOf q).toNat)
        case atStart => exact ⟨0, n1, by omega, rfl, HN1.out, HKE.out, HFE.out⟩
        case round =>
          obtain ⟨j, l, hj, rfl, hl, hkk, hff⟩ := hrel
          have HF := Lib.hid hff
          have HLM := Lib.hid hl
          by_cases hlt2 : j < c.length
          · obtain ⟨x, hxk⟩ : ∃ x, c[j]? = some x := ⟨_, List.getElem?_eq_getElem hlt2⟩
            obtain ⟨b2, hb2, hxc⟩ : ∃ b2, some b1 = some b2 ∧ wr.cell? (b2.add j) = some (iV x) := by
              obtain ⟨_, _, _, _, _, _, hrd, _⟩ := hkk.clause (hno _) (hno _) (i := k) (c := c) (by show S3.L[k]? = _; rw [t1]; exact HC.out)
              rw [ES.out] at hrd
              exact reads_elem hrd hxk
            cases hb2
            have hxc2 : wr.cell? (b1.add j) = some (.int .i64 x) := hxc
            have hlit := (HLC.out c (List.mem_of_getElem? HC.out)).2
            have hx2 := hlit x (List.mem_of_getElem? hxk)
            have hl2 := hlit l hl
            obtain ⟨a1, ha1⟩ : ∃ a1 : Nat, x + (S.vars : Int) = (a1 : Int) := ⟨(x + (S.vars : Int)).toNat, by omega⟩
            obtain ⟨a2, ha2⟩ : ∃ a2 : Nat, l + (S.vars : Int) = (a2 : Int) := ⟨(l + (S.vars : Int)).toNat, by omega⟩
            have hv6 := HG.out.vars
            have HA1 := Lib.hid (fun q => at29_any (hkk.drewN q) (hno _) x a1 (by show x + (S3.vars : Int) = _; rw [t3]; exact ha1) (by omega))
            have HA2 := Lib.hid (fun q => at29_any (hkk.drewN q) (hno _) l a2 (by show l + (S3.vars : Int) = _; rw [t3]; exact ha2) (by omega))
            have hww : wide { S3 with lit := l } = wide S := by unfold wide; rw [t3]
            have haw1 : a1 < wide S := by unfold wide; omega
            have haw2 : a2 < wide S := by unfold wide; omega
            obtain ⟨gs, cs, s1, s2, s3, _, _, sa1, sc1, ss1⟩ := hkk.stand (hno _) (hno _) (a := a1) (by rw [hww]; exact haw1)
            obtain ⟨gs', cs', u1, u2, u3, _, _, sa2, sc2, ss2⟩ := hkk.stand (hno _) (hno _) (a := a2) (by rw [hww]; exact haw2)
            rw [s1] at u1
            cases u1
            have hq7 := hkk.cStd (hno _)
            rw [s1, hww] at hq7
            have hq11 : wr.cell? ⟨M.K, 11, none⟩ = some (.int .i64 l) := hkk.cLit (hno _)
            have hz11 := hkk.froz (hno _) 11
            rw [ss1] at s2
            rw [ss2] at u2
            have hl1 : (({ S3 with lit := l } : Ws).st a1).length ≤ 1000000 := by show (S3.st a1).length ≤ _; rw [t4]; exact HSL.out a1
            have hl2 : (({ S3 with lit := l } : Ws).st a2).length ≤ 1000000 := by show (S3.st a2).length ≤ _; rw [t4]; exact HSL.out a2
            generalize (({ S3 with lit := l } : Ws).st a1).length = z1 at s2 hl1
            generalize (({ S3 with lit := l } : Ws).st a2).length = z2 at u2 hl2
            have hl1I : (z1 : Int) ≤ 1000000 := by omega
            have hl2I : (z2 : Int) ≤ 1000000 := by omega
            have hjI : (j : Int) < (c.length : Int) := by omega
            have haI1 : (a1 : Int) < ((wide S : Nat) : Int) := by omega
            have haI2 : (a2 : Int) < ((wide S : Nat) : Int) := by omega
            have hwI : ((wide S : Nat) : Int) ≤ 1000000 := by unfold wide; omega
            have HXM := Lib.hid (List.mem_of_getElem? hxk)
            have HKK := Lib.hid hkk
            have HKX := Lib.hid (fun q => (hkk.drewN q).setTop (S' := { S3 with lit := x }) (hno _) 11 (.int .i64 x) id rfl (fun s hs _ => by cases s <;> rfl))
            clear hkk hff hl hxk hxc hlit hx2 hl2 ha1 ha2 haw1 haw2 hww s1 ss1 ss2 hl1
            generalize hwd : wide S = wd at hq7 haI1 haI2 hwI
            clear hwd
            by_cases hlt3 : z1 < z2
            · have hzI : (z1 : Int) < (z2 : Int) := by omega
              go_upto_region 11 with fail
              go_quiet ((first | (go_at_call 34; with_reducible exact Calls.quiet_of_same (HA1.out _)) | (go_at_call 34; with_reducible exact Calls.quiet_of_same (HA2.out _))))
              go_wp2_with fail
              go_round
              case rel => exact ⟨j + 1, x, by omega, by go_num, HXM.out, HKX.out _, (HF.out.drewN _).trans (FrW.put (ts := hdT) _ M _ _ (.inl HKK.out.tK))⟩
              case measure => simp [intOf]; omega
            · have hzI : (z2 : Int) ≤ (z1 : Int) := by omega
              go_upto_region 11 with fail
              go_quiet ((first | (go_at_call 34; with_reducible exact Calls.quiet_of_same (HA1.out _)) | (go_at_call 34; with_reducible exact Calls.quiet_of_same (HA2.out _))))
              go_wp2_with fail
              go_round
              case rel => exact ⟨j + 1, l, by omega, by go_num, HLM.out, HKK.out.drewN _, HF.out.drewN _⟩
              case measure => simp [intOf]; omega
          · have hjI : (c.length : Int) ≤ j := by omega
            have HN := Lib.hid (show KW wr n0 M (holdS S k l) noW from by rw [← HT.out l]; exact hkk)
            have HCL := Lib.hid (show k < S.L.length → l ∈ S.L.getD k [] from fun _ => by rw [List.getD, HC.out]; exact hl)
            clear hkk hff hl
            go_wp2
            go_end0
            exact ⟨rfl, k, l, HNX.out, HCL.out, HN.out, HF.out⟩
    · have hkL : k = S.L.length := by omega
      subst hkL
      have HNX := Lib.hid (show NextA S i S.L.length from ⟨hik, hk, HGO.out, fun h => absurd h (by omega)⟩)
      have hfz := HK1.out.froz (hno _) 10
      have hfz2 := HK1.out.froz (hno _) 12
      have hkA := HK1.out.setTop (S' := { S1 with first := S.L.length }) (hno _) 10 (.int .i64 (S.L.length : Int)) id rfl (fun s hs _ => by cases s <;> rfl)
      have hkB := hkA.setTop (S' := { S1 with first := S.L.length, next := 0 }) (hno _) 12 (.int .i64 0) id rfl (fun s hs _ => by cases s <;> rfl)
      have hfB : FrW M M hdT w ((w1.setCell ⟨M.K, 10, none⟩ (.int .i64 (S.L.length : Int))).setCell ⟨M.K, 12, none⟩ (.int .i64 0)) :=
        ((HF1.out.mono (fun t ht => .inr ht)).trans (FrW.put (ts := hdT) _ M _ _ (.inl HK1.out.tK))).trans (FrW.put (ts := hdT) _ M _ _ (.inl HK1.out.tK))
      have hx10 := HK1.out.cFirst (hno _)
      have hx12 := HK1.out.cNext (hno _)
      have HKB := Lib.hid hkB
      have HFB := Lib.hid hfB
      have HT := Lib.hid (show { S1 with first := S.L.length, next := 0 } = holdS S S.L.length S1.lit from by
        unfold holdS holdB
        rw [markS_out (S := markS S S.first false) (by rw [markS_L]; exact Nat.lt_irrefl _), HS1.out.1, HS1E.out])
      clear hkA hkB hfB
      go_upto_region 5 with fail
      generalize hW2 : (w1.setCell ⟨M.K, 10, none⟩ (.int .i64 (S.L.length : Int))).setCell ⟨M.K, 12, none⟩ (.int .i64 0) = W2 at HKB HFB ⊢
      clear hW2
      have hb1 : W2.cell? ⟨M.K, 1, none⟩ = some (.slice la S.L.length lc) := (HKB.out.cLst (hno _)).trans (by rw [hl0])
      go_wp2
      (try simp only [Exit.inBlock, Exit.then])
      refine bodyPost_ret (results_none rfl _ _ _) rfl ?_
      refine ⟨rfl, S.L.length, HNX.out, S1.lit, fun h => absurd h (Nat.lt_irrefl _), ?_, HFB.out⟩
      rw [← HT.out]
      exact HKB.out
end
end Go.Proofs.Ytlcbfahaapodmaa
