/-
  Layer 29: covered. Own work.
-/
import Derived.Test.YtlcbfahaapodmaaCi29
namespace Go.Proofs.Ytlcbfahaapodmaa
set_option linter.unusedVariables false
set_option linter.unusedSimpArgs false
open Go.RowKit

def cvT : Tw → Prop := fun t => t = .top ∨ t = .mem ∨ t = .sig ∨ t = .gon ∨ t = .cnt
def PairR (S : Ws) (i k : Nat) : Prop := i ∈ aliveIx S.L S.G ∧ k ∈ aliveIx S.L S.G ∧ coversW S i k = true ∧ (∀ j, j ∈ aliveIx S.L S.G → j < i → ∀ m, m ∈ aliveIx S.L S.G → coversW S j m = false) ∧ (∀ m, m ∈ aliveIx S.L S.G → m < k → coversW S i m = false)
def CoverR (S S' : Ws) (b : Bool) : Prop := match b with
  | true => ∃ S1 i k, SameC S S1 ∧ S1.bg = true ∧ S' = dropS S1 k ∧ PairR S i k ∧ CI S'
  | false => SameC S S' ∧ S'.bg = true ∧ CI S' ∧ ∀ i k, i ∈ aliveIx S.L S.G → k ∈ aliveIx S.L S.G → coversW S i k = false
def CRel (n0 : Nat) (M : Wm) (S : Ws) (w wx : World) : Prop := ∃ M' S', KW wx n0 M' S' noW ∧ FrW M M' cvT w wx ∧ SameC S S' ∧ S'.bg = true ∧ CI S'
theorem PairR.of {S T : Ws} (h : SameC S T) {i k : Nat} (p : PairR T i k) : PairR S i k := by
  obtain ⟨p1, p2, p3, p4, p5⟩ := p
  rw [h.L, h.G] at p1 p2 p4 p5
  exact ⟨p1, p2, (h.cov i k).symm.trans p3, fun j hj hl m hm => (h.cov j m).symm.trans (p4 j hj hl m hm), fun m hm hl => (h.cov i m).symm.trans (p5 m hm hl)⟩
theorem u64_info : (Try.prog.info? 70).map (fun i => (i.zero, i.size, i.bytes)) = some (some (.int .u64 0), 1, 8) := by kernel_rfl
theorem bool29_info : (Try.prog.info? 4).map (fun i => (i.zero, i.size, i.bytes)) = some (some (.bool false), 1, 1) := by kernel_rfl
/-- one number of bits more, a step of a region that draws -/
theorem step_appU {ops : Array Oper} {E : Prop} {o : Oper} {a : Act} {K : Act → World → Prop} {Q : Exit → Act → World → Prop} (hgd : o.guard = none) (s x : Operand)
    (ho : o.op = .call { callee := .builtin .append, args := #[s, x], argTypes := #[52, 52] }) (w2 : World) (u : Nat) {base n : Nat} {v : Value} {xs : List Value} (hsv : a.eval s = v) (hx : a.eval x = .slice (some ⟨w2.heap.size, 0, none⟩) 1 1)
    (hown : w2.ownsRow base 70 1 v n xs) (hn : n ≤ 1000000) (hbase : base ≤ w2.heap.size)
    (hK : ∀ g cap w', w'.ownsRow base 70 1 (.slice (some ⟨g, 0, none⟩) (n + 1) cap) (n + 1) (xs ++ [uV u]) → w2.grownBy w' v.ownBlock → (v.ownBlock = some g ∨ (w2.heap.size ≤ g ∧ g < w'.heap.size)) → K (a.put o.dst (.slice (some ⟨g, 0, none⟩) (n + 1) cap)) w') :
    if Region.wanted o (yielded ops a.tmps) = true then Oper.wp Try.prog o a (w2.alloc (.cells #[.int .u64 (u : Int)] 70)) K Q else E := by
  obtain ⟨i, hi, hz, hsize, hby⟩ := info_parts u64_info
  refine step_append_lies _ hgd s x 52 ho base 70 i _ 1 8 Try.underlying52 hi hz hsize hby rfl (by omega) v n xs hsv (hown.alloc _) ⟨w2.heap.size, 0, none⟩ 1 1 [uV u] hx rfl (cell_one_new w2 _ _) (by simp [Value.oneCell', uV]) (by omega) (by simp only [maxLen]; omega) (by omega) (by simp; omega) _ rfl ?_
  intro g cap w' h2 h3 h4 h5
  refine hK g cap w' h2 ⟨h3.os, h3.tape, h3.output, Nat.le_trans (by simp) h3.size, fun k hk hne => (h3.block k (by simp; omega) hne).trans (Below.heap_alloc _ _ _ hk)⟩ ?_
  rcases h4 with h4 | h4
  · exact .inl h4
  · exact .inr ⟨by rw [h4]; simp, (h2.lt g rfl).2⟩
theorem putH_tr {hd : Tw → Value} {t s : Tw} {v u : Value} (h : s ≠ t) (e : hd s = u) : putH hd t v s = u := (putH_ne hd v h).trans e
theorem grown_any {w w' : World} {row : Option Nat} (h : w.grownBy w' none) : w.grownBy w' row := ⟨h.os, h.tape, h.output, h.size, fun b hb _ => h.block b hb (by simp)⟩
theorem replicate_map {α β : Type} (f : α → β) (n : Nat) (x : α) : (List.replicate n x).map f = List.replicate n (f x) := by simp
section
variable {w : World} {n0 : Nat} {M : Wm} {S : Ws} {ex : Tw → Prop}
set_option maxHeartbeats 4000000 in
set_option maxRecDepth 100000 in
theorem covered29_any (h : KW w n0 M S noW) (hgd : Gd S) (hst : StI S) (hpl : Pln (alive S.L S.G)) (h0 : firstW S 0 = none) (hbg : S.bg = true → CI S) (hb0 : S.bg = false → S.first = 0 ∧ S.sg = []) :
    Calls Try.prog 28 #[.pointer (some ⟨M.K, 0, none⟩)] w fun e w' => ∃ b M' S', e = .returned (.bool b) ∧ KW w' n0 M' S' noW ∧ FrW M M' cvT w w' ∧ CoverR S S' b := by
  have hno : ∀ t, ¬ noW t := fun t h => h
  have hne : ∀ c ∈ alive S.L S.G, c ≠ [] := fun c hc e => no_empty hgd h0 (by rw [List.any_eq_true]; exact ⟨c, hc, by rw [e]; rfl⟩)
  have hc9 := h.cBg (hno _)
  have HK := Lib.hid h
  have HG := Lib.hid hgd
  have HST := Lib.hid hst
  have HPL := Lib.hid hpl
  have HNE := Lib.hid hne
  have HBG := Lib.hid hbg
  have HB0 := Lib.hid hb0
  clear h hgd hst hpl hne hbg hb0 h0
  obtain ⟨b, hb⟩ : ∃ b, S.bg = b := ⟨_, rfl⟩
  rw [hb] at hc9
  have HB := Lib.hid hb
  clear hb
  go_enter Try.func28, Try.ntmps28
  go_upto_if 15 with fail
  go_cut [5] from 16 to 52 (fun q wx => CRel n0 M S w wx)
  case first =>
    cases b with
    | true =>
      go_wp2_with fail
      go_meet
      exact ⟨M, S, HK.out, FrW.refl _ _ _, SameC.refl _, HB.out, HBG.out HB.out⟩
    | false =>
      have hB0 := HB0.out HB.out
      have hf9 := HK.out.froz (hno _) 9
      have HKA := Lib.hid (HK.out.setTop (S' := { S with bg := true }) (hno _) 9 (.bool true) id rfl (fun s hs _ => by cases s <;> rfl))
      have HFA := Lib.hid (show FrW M M cvT w (w.setCell ⟨M.K, 9, none⟩ (.bool true)) from FrW.put (ts := cvT) _ M _ _ (.inl HK.out.tK))
      go_upto_region 4 with fail
      generalize hW1 : w.setCell ⟨M.K, 9, none⟩ (.bool true) = W1 at HKA HFA ⊢
      clear hW1 hc9 hf9
      have hq0 : W1.cell? ⟨M.K, 0, none⟩ = some (.int .i64 (S.vars : Int)) := HKA.out.cVars (hno _)
      have hv6 := HG.out.vars
      have hw2 : IntKind.i64.wrap (2 * (S.vars : Int)) = 2 * (S.vars : Int) := IntWalk.i64_in _ ⟨by omega, by omega⟩
      have hw3 : IntKind.i64.wrap (2 * (S.vars : Int) + 1) = 2 * (S.vars : Int) + 1 := IntWalk.i64_in _ ⟨by omega, by omega⟩
      obtain ⟨i0, hi, hz0, hz1, hz2⟩ := info_parts bool29_info
      have hws : wide S ≤ 1000000 := by unfold wide; omega
      have hn0 := HKA.out.base
      go_wp2_with (at_make; refine wpList_make_full _ rfl _ _ 40 rfl n0 4 i0 (.bool false) 1 Try.underlying40 hi hz0 hz1 .i64 .i64 _ _ (wide S) rfl rfl (by unfold wide; omega) (by unfold wide; omega) (by rw [hz2]; omega) (by unfold maxLen; omega) hn0 ?_)
      intro w3 hown hgrow
      have hxs : (madeCells #[Value.bool false] (wide S)).toList = (List.replicate (wide S) false).map bV := by
        rw [replicate_map]
        exact toList_madeCells_one _ _
      rw [hxs] at hown
      have hsz3 : W1.heap.size < w3.heap.size := (hown.lt W1.heap.size rfl).2
      have hown2 : w3.ownsRow n0 (tyW .mem) 1 (.slice (some ⟨W1.heap.size, 0, none⟩) (wide S) (wide S)) ((List.replicate (wide S) false).map bV).length ((List.replicate (wide S) false).map bV) := by
        rw [List.length_map, List.length_replicate]; exact hown
      obtain ⟨hk1, f, hk2, hf2⟩ := HKA.out.appTop (t := .mem) rfl rfl (hno _) (v' := .slice (some ⟨W1.heap.size, 0, none⟩) (wide S) (wide S)) hown2 (grown_any hgrow) (.inr ⟨W1.heap.size, rfl, Nat.le_refl _, hsz3⟩) 13
        { S with bg := true, mb := List.replicate (wide S) false } rfl rfl rfl (fun s hs hne => by
          cases s <;> first | rfl | exact absurd rfl hne)
      have hor : ¬ orW noW .mem .top := fun e => e.elim (hno _) (by simp)
      have hc13 : w3.cell? ⟨M.K, 13, none⟩ = some (M.hd .mem) := hk1.cMem hor
      have hf13 : w3.frozen? ⟨M.K, 13, none⟩ = false := hk1.froz hor 13
      have HK2 := Lib.hid hk2
      have HF2 := Lib.hid (show FrW M ⟨M.K, putH M.hd .mem (.slice (some ⟨W1.heap.size, 0, none⟩) (wide S) (wide S)), f⟩ cvT w _ from HFA.out.trans (hf2.mono (fun t ht => ht.elim .inl (fun e => .inr (.inl e)))))
      clear hown hown2 hgrow hk1 hk2 hf2 hq0 hw2 hw3 hsz3 hxs hi hz0 hz1 hz2
      go_upto_region 5 with fail
      generalize hM2 : (⟨M.K, putH M.hd .mem (.slice (some ⟨W1.heap.size, 0, none⟩) (wide S) (wide S)), f⟩ : Wm) = M2 at HK2 HF2
      have hMK : M2.K = M.K := by rw [← hM2]
      generalize w3.setCell ⟨M.K, 13, none⟩ (.slice (some ⟨W1.heap.size, 0, none⟩) (wide S) (wide S)) = W2 at HK2 HF2 ⊢
      have HMK := Lib.hid hMK
      clear hM2 hc13 hf13
      have hq1 : W2.cell? ⟨M.K, 1, none⟩ = some (M2.hd .lst) := by rw [← hMK]; exact HK2.out.cLst (hno _)
      obtain ⟨la, lc, hl0⟩ := HK2.out.shape (t := .lst) rfl (hno _)
      have e5 : ctW { S with bg := true, mb := List.replicate (wide S) false } M2.hd .lst = (List.range S.L.length).map fun i => M2.hd (.cl i) := rfl
      rw [e5, List.length_map, List.length_range] at hl0
      rw [hl0] at hq1
      have HL0 := Lib.hid hl0
      have hL6 : S.L.length ≤ 1000000 := Nat.le_trans (size_len _) HG.out.size
      have hLI : (S.L.length : Int) ≤ 1000000 := by omega
      clear e5 hl0
      have hs0 : ({ S with bg := true, mb := List.replicate (wide S) false } : Ws) = { S with bg := true, mb := List.replicate (wide S) false, sg := (S.L.take 0).map (sgnM S.vars) } := by
        rw [List.take_zero, List.map_nil, ← hB0.2]
      rw [hs0] at HK2
      clear hs0
      go_wp2_with fail
      go_loopw [5, 34] (fun z q wr => ∃ j : Nat, ∃ M3 : Wm, j ≤ S.L.length ∧ q = .int .i64 j ∧ KW wr n0 M3 { S with bg := true, mb := List.replicate (wide S) false, sg := (S.L.take j).map (sgnM S.vars) } noW ∧ FrW M M3 cvT w wr ∧ M3.hd .lst = M2.hd .lst ∧ (∀ i, M3.hd (.cl i) = M2.hd (.cl i))) (fun _ q _ => S.L.length - (intOf q).toNat)
      case atStart => exact ⟨0, M2, by omega, rfl, HK2.out, HF2.out, rfl, fun _ => rfl⟩
      case round =>
        obtain ⟨j, M3, hj, rfl, hkk, hff, hll, hlc⟩ := hrel
        have hMK3 : M3.K = M.K := hff.K
        have HKK := Lib.hid hkk
        have HFF := Lib.hid hff
        have HLL3 := Lib.hid hll
        have HLC3 := Lib.hid hlc
        by_cases hlt : j < S.L.length
        · obtain ⟨c, hc⟩ : ∃ c, S.L[j]? = some c := ⟨_, List.getElem?_eq_getElem hlt⟩
          obtain ⟨g, cap, e1, e2, e3, _, er, ca, cc, es⟩ := hkk.clause (hno _) (hno _) (i := j) (c := c) hc
          have e1 : M3.hd .lst = .slice (some ⟨g, 0, none⟩) S.L.length cap := e1
          rw [hll, HL0.out] at e1
          cases e1
          rw [es] at e2 er
          have hkd := hkk.drew
          have hcm := HG.out.lits c (List.mem_of_getElem? hc)
          have HSN := Lib.hid (sign29_any hkd (hno _) _ c (by
            obtain ⟨_, _, _, _, _, _, er2, _⟩ := hkd.clause (hno _) (hno _) (i := j) (c := c) hc
            rw [es] at er2
            exact er2) HG.out.vars (fun n hn => by have := hcm n hn; exact ⟨this.1, this.2.1⟩))
          rw [hMK3] at HSN
          have hd14 : wr.drew.cell? ⟨M.K, 14, none⟩ = some (M3.hd .sig) := by rw [← hMK3]; exact hkd.cSig (hno _)
          have hd14a : ∀ o, (wr.drew.alloc o).cell? ⟨M.K, 14, none⟩ = some (M3.hd .sig) := fun o => by rw [← hMK3]; exact (hkd.alloc o).cSig (hno _)
          have hd14b : ∀ o, ((wr.alloc o).drew).cell? ⟨M.K, 14, none⟩ = some (M3.hd .sig) := hd14a
          have hso := (hkd.row .sig rfl (hno _)).own (.inl rfl)
          have hsl : (ctW { S with bg := true, mb := List.replicate (wide S) false, sg := (S.L.take j).map (sgnM S.vars) } M3.hd .sig) = ((S.L.take j).map (sgnM S.vars)).map uV := rfl
          rw [hsl, List.length_map, List.length_map, List.length_take, Nat.min_eq_left hj] at hso
          have hso : wr.drew.ownsRow n0 70 1 (M3.hd .sig) j (((S.L.take j).map (sgnM S.vars)).map uV) := hso
          have hb0 : n0 ≤ wr.drew.heap.size := hkd.base
          have HKD := Lib.hid hkd
          have HC := Lib.hid hc
          have hjI : (j : Int) < (S.L.length : Int) := by omega
          clear hkk hff hll hlc es er hkd hcm hsl hc
          go_upto_region 8 with fail
          go_region_law (first
            | (go_simp; go_at_call 39; with_reducible refine HSN.out.mono ?_; rintro e w5 ⟨rfl, rfl⟩)
            | (refine step_appU rfl (.tmp 42) (.tmp 46) rfl wr.drew (sgnM S.vars c) rfl rfl hso (by omega) hb0 ?_; intro g6 q6 w6 ho6 hg6 hat6; obtain ⟨hk5, f6, hk6, hf6⟩ := HKD.out.appTop (t := .sig) rfl rfl (hno _) (v' := .slice (some ⟨g6, 0, none⟩) (j + 1) q6) (xs' := ((S.L.take j).map (sgnM S.vars)).map uV ++ [uV (sgnM S.vars c)]) (by rw [List.length_append, List.length_map, List.length_map, List.length_take, Nat.min_eq_left hj]; exact ho6) hg6 (hat6.elim (fun e => .inl e.symm) (fun e => .inr ⟨g6, rfl, e⟩)) 14
                { S with bg := true, mb := List.replicate (wide S) false, sg := (S.L.take (j + 1)).map (sgnM S.vars) } rfl rfl (by show ((S.L.take (j + 1)).map (sgnM S.vars)).map uV = _; rw [take_snoc _ j c HC.out]; simp) (fun s hs hne => by cases s <;> first | rfl | exact absurd rfl hne); have hor6 : ¬ orW noW .sig .top := (fun e => e.elim (hno _) (by simp)); have hc14 : w6.cell? ⟨M.K, 14, none⟩ = some (M3.hd .sig) := (by rw [← hMK3]; exact hk5.cSig hor6); have hf14 : w6.frozen? ⟨M.K, 14, none⟩ = false := (by rw [← hMK3]; exact hk5.froz hor6 14); have HK6 := Lib.hid hk6; have HF6 := Lib.hid hf6; clear hk5 hk6 hf6 ho6 hg6 hat6 hor6))
          all_goals
            rw [hMK3] at HK6 HF6
            go_wp2_with fail
            go_round
            case rel => exact ⟨j + 1, _, by omega, by go_num, HK6.out, (HFF.out.drew).trans (HF6.out.mono (fun t ht => ht.elim .inl (fun e => .inr (.inr (.inl e))))), putH_tr (hd := M3.hd) (v := .slice (some ⟨g6, 0, none⟩) (j + 1) q6) (s := .lst) (t := .sig) (by simp) HLL3.out, fun i => putH_tr (hd := M3.hd) (v := .slice (some ⟨g6, 0, none⟩) (j + 1) q6) (s := .cl i) (t := .sig) (by simp) (HLC3.out i)⟩
            case measure => simp [intOf]; omega
        · have hjI : (S.L.length : Int) ≤ (j : Int) := by omega
          have hjj : j = S.L.length := by omega
          subst hjj
          have HS := Lib.hid (show SameC S { S with bg := true, mb := List.replicate (wide S) false, sg := (S.L.take S.L.length).map (sgnM S.vars) } from rfl)
          have hg9 := HS.out.gd HG.out
          have HMO := Lib.hid (show MkOn { S with bg := true, mb := List.replicate (wide S) false, sg := (S.L.take S.L.length).map (sgnM S.vars) } from ⟨by show (List.replicate (wide S) false).length = wide S; simp, fun a ha => by
            have ha : (List.replicate (wide S) false)[a]? = some true := ha
            rw [List.getElem?_replicate] at ha
            split at ha <;> cases ha⟩)
          have HHD := Lib.hid (hold29_any hkk hg9 HMO.out.len (by show S.first ≤ S.L.length; rw [hB0.1]; omega) (fun a => Nat.le_trans (HST.out.stLen a) hL6) (fun c hc => HNE.out c hc) 0 (by omega))
          rw [hMK3] at HHD
          clear hkk hff hll hlc hg9
          go_wp2_with fail
          refine HHD.out.mono ?_
          rintro e w4 ⟨rfl, r, l, hnx, hl, hk4, hf4⟩
          have HCN := Lib.hid (show CI (holdS { S with bg := true, mb := List.replicate (wide S) false, sg := (S.L.take S.L.length).map (sgnM S.vars) } r l) from CI.hold HMO.out (by show (S.L.take S.L.length).map (sgnM S.vars) = _; rw [List.take_length]) hnx hl (fun j hj => by omega))
          have HK4 := Lib.hid hk4
          have HF4 := Lib.hid (show FrW M M3 cvT w w4 from HFF.out.trans (hf4.mono (fun t ht => by rcases ht with ht | ht; exact .inl ht; exact .inr (.inl ht))))
          clear hk4 hf4 hnx hl
          go_wp2_with fail
          go_meet
          exact ⟨M3, _, HK4.out, HF4.out, HS.out.trans rfl, rfl, HCN.out⟩
  case rest =>
    obtain ⟨M1, S1, hk1, hf1, hs1, hbg1, hci1⟩ := hcut
    have hMK : M1.K = M.K := hf1.K
    have HK1 := Lib.hid hk1
    have HF1 := Lib.hid hf1
    have HS1 := Lib.hid (show SameC S S1 ∧ S1.bg = true ∧ CI S1 from ⟨hs1, hbg1, hci1⟩)
    clear hk1 hf1 hs1 hbg1 hci1
    go_wp2_with fail
    go_loopw [6, 7] (fun q1 q2 wr => ∃ S', KW wr n0 M1 S' noW ∧ FrW M M1 cvT w wr ∧ SameC S S' ∧ S'.bg = true ∧ CI S') (fun _ _ wr => S.L.length - (intOf ((wr.cell? ⟨M.K, 10, none⟩).getD (.int .i64 0))).toNat)
    case atStart => exact ⟨S1, HK1.out, HF1.out, HS1.out.1, HS1.out.2.1, HS1.out.2.2⟩
    case round =>
      obtain ⟨T, hkk, hff, hst, hbt, hci⟩ := hrel
      have HK := Lib.hid hkk
      have HF := Lib.hid hff
      have HT := Lib.hid hst
      have HBT := Lib.hid hbt
      have HCI := Lib.hid hci
      have hTL := hst.L
      have hL6 : S.L.length ≤ 1000000 := Nat.le_trans (size_len _) HG.out.size
      have hq10 : wr.cell? ⟨M.K, 10, none⟩ = some (.int .i64 (T.first : Int)) := by rw [← hMK]; exact hkk.cFirst (hno _)
      have hq1 : wr.cell? ⟨M.K, 1, none⟩ = some (M1.hd .lst) := by rw [← hMK]; exact hkk.cLst (hno _)
      obtain ⟨la, lc, hl0⟩ := hkk.shape (t := .lst) rfl (hno _)
      have e5 : ctW T M1.hd .lst = (List.range T.L.length).map fun i => M1.hd (.cl i) := rfl
      rw [e5, List.length_map, List.length_range, hTL] at hl0
      rw [hl0] at hq1
      have hfL : T.first ≤ S.L.length := by rw [← hTL]; exact hci.first
      have hLI : (S.L.length : Int) ≤ 1000000 := by omega
      have HGT := Lib.hid (hst.gd HG.out)
      have HSTT := Lib.hid (hst.stI HST.out)
      have HQ10 := Lib.hid hq10
      clear hkk hff hst hbt hci e5 hTL
      by_cases hlt : T.first < S.L.length
      · have hltI : (T.first : Int) < (S.L.length : Int) := by omega
        go_upto_region 11 with fail
        go_quiet (fail)
        generalize hW1 : wr.drewN _ = W1
        have HKW := Lib.hid (show KW W1 n0 M1 T noW from by rw [← hW1]; exact HK.out.drewN _)
        have HFW := Lib.hid (show FrW M M1 cvT w W1 from by rw [← hW1]; exact HF.out.drewN _)
        clear hW1
        have HWD := Lib.hid (wider29_any HKW.out HGT.out HSTT.out HCI.out.mok HCI.out.sg (fun c hc => HPL.out.1 c (by rw [HT.out.L, HT.out.G] at hc; exact hc)) (by rw [HT.out.L]; exact hlt) (HCI.out.lit (by rw [HT.out.L]; exact hlt)) HCI.out.next)
        rw [hMK] at HWD
        go_wp2_with fail
        refine HWD.out.mono ?_
        rintro e w3 ⟨o, nx, rfl, hwr, hk3, hf3⟩
        have HK3 := Lib.hid hk3
        have HF3 := Lib.hid (show FrW M M1 cvT w w3 from HFW.out.trans (hf3.mono (fun t ht => .inl ht)))
        have HWR := Lib.hid hwr
        clear hk3 hf3 hwr
        cases o with
        | some k =>
          obtain ⟨p1, p2, p3, p4, p5, p6⟩ := HCI.out.pair HGT.out HSTT.out (by rw [HT.out.L]; exact hlt) HWR.out
          have hkL := (aliveIx_mem.1 p2).1
          obtain ⟨d, hd⟩ : ∃ d, T.L[k]? = some d := ⟨_, List.getElem?_eq_getElem hkL⟩
          have hSX : SameC T { T with next := nx } := rfl
          have hgX := hSX.gd HGT.out
          have hdm : d ∈ T.L := List.mem_of_getElem? hd
          have HDR := Lib.hid (drop29_any HK3.out (hno _) (hno _) (hno _) (fun _ => hno _) (hno _) (i := k) (c := d) hd hgX.gl (Nat.le_trans (size_len _) hgX.size) hgX.vars
            (fun m hm => by have := hgX.lits d hdm m hm; exact ⟨this.1, this.2.1⟩) (by have := size_mem hdm; have := hgX.size; show d.length ≤ _; have h9 : sizeC T.L ≤ 1000000 := this; omega) (fun a => by have := hgX.cn a; omega))
          rw [hMK] at HDR
          have HP := Lib.hid (show PairR S T.first k from PairR.of HT.out ⟨p1, p2, p3, p4, p5⟩)
          have HP6 := Lib.hid p6
          have HSX := Lib.hid (HT.out.trans hSX)
          clear p1 p2 p3 p4 p5 p6 hd hdm hgX hSX
          go_wp2_with fail
          refine HDR.out.mono ?_
          rintro e w4 ⟨rfl, hk4, hf4⟩
          have HK4 := Lib.hid hk4
          have HF4 := Lib.hid (show FrW M M1 cvT w w4 from HF3.out.trans (hf4.mono (fun t ht => by rcases ht with ht | ht; exact .inr (.inr (.inr (.inl ht))); exact .inr (.inr (.inr (.inr ht))))))
          clear hk4 hf4
          go_wp2
          go_ret
          exact ⟨true, M1, _, rfl, HK4.out, HF4.out, _, T.first, k, HSX.out, HBT.out, rfl, HP.out, HP6.out⟩
        | none =>
          have hSX : SameC T { T with next := nx } := rfl
          have HSX := Lib.hid (HT.out.trans hSX)
          have hmo : MkOn { T with next := nx } := mkOn_next HCI.out.mok.on
          have HMO := Lib.hid hmo
          have HHD := Lib.hid (hold29_any HK3.out (hSX.gd HGT.out) hmo.len HCI.out.first (fun a => Nat.le_trans (HSTT.out.stLen a) (by rw [HT.out.L]; exact hL6)) (fun c hc => HNE.out c (by rw [← HT.out.L, ← HT.out.G]; exact hc)) (T.first + 1) (by show T.first + 1 ≤ T.L.length; rw [HT.out.L]; exact hlt))
          rw [hMK] at HHD
          have hd10 : w3.cell? ⟨M.K, 10, none⟩ = some (.int .i64 (T.first : Int)) := by rw [← hMK]; exact HK3.out.cFirst (hno _)
          have hw1 : IntKind.i64.wrap ((T.first : Int) + 1) = ((T.first + 1 : Nat) : Int) := by rw [IntWalk.i64_in _ ⟨by omega, by omega⟩]; omega
          have HN := Lib.hid (HCI.out.none HGT.out HSTT.out (by rw [HT.out.L]; exact hlt) HWR.out)
          have HTL := Lib.hid HT.out.L
          clear hSX hmo
          go_wp2_with fail
          refine HHD.out.mono ?_
          rintro e w4 ⟨rfl, r, l, hnx, hl, hk4, hf4⟩
          have HCN := Lib.hid (show CI (holdS { T with next := nx } r l) from CI.hold HMO.out HCI.out.sg hnx hl HN.out)
          have HK4 := Lib.hid hk4
          have HF4 := Lib.hid (show FrW M M1 cvT w w4 from HF3.out.trans (hf4.mono (fun t ht => by rcases ht with ht | ht; exact .inl ht; exact .inr (.inl ht))))
          have HSN := Lib.hid (show SameC S (holdS { T with next := nx } r l) from HSX.out.trans rfl)
          have hc10 : w4.cell? ⟨M.K, 10, none⟩ = some (.int .i64 (r : Int)) := by rw [← hMK]; exact hk4.cFirst (hno _)
          have hr1 := hnx.1
          clear hk4 hf4 hnx hl
          go_wp2_with fail
          go_round
          case rel => exact ⟨_, HK4.out, HF4.out, HSN.out, HBT.out, HCN.out⟩
          case measure =>
            rw [hc10, HQ10.out]
            simp [intOf]; omega
      · have hltI : (S.L.length : Int) ≤ (T.first : Int) := by omega
        have HE := Lib.hid (show ∀ i k, i ∈ aliveIx S.L S.G → k ∈ aliveIx S.L S.G → coversW S i k = false from fun i k hi hk => by
          rw [← HT.out.cov]
          exact HCI.out.end (by rw [HT.out.L]; omega) i k (by rw [HT.out.L, HT.out.G]; exact hi) (by rw [HT.out.L, HT.out.G]; exact hk))
        go_upto_region 11 with fail
        go_quiet (fail)
        go_wp2
        go_ret
        exact ⟨false, M1, T, rfl, HK.out.drewN _, HF.out.drewN _, HT.out, HBT.out, HCI.out, HE.out⟩
end
end Go.Proofs.Ytlcbfahaapodmaa
