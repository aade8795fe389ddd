/-
  Layer 29: both, the walk. Own work.
-/
import Derived.Test.YtlcbfahaapodmaaBo29
import Derived.Deep.RegionLaw
import Derived.Deep.RegionHeld3
namespace Go.Proofs.Ytlcbfahaapodmaa
set_option linter.unusedVariables false
set_option linter.unusedSimpArgs false
open Go.RowKit

def btT : Tw → Prop := fun t => t = .top ∨ t = .gon ∨ t = .std ∨ t = .cnt ∨ ∃ a, t = .st a
/-- a literal and its opposite among the first j -/
def tpM (c : List Int) (j : Nat) : Bool := taut (c.take j)
theorem tpM_succ {c : List Int} {j : Nat} {x : Int} (hx : c[j]? = some x) : tpM c (j + 1) = (tpM c j || decide (-x ∈ c.take (j + 1))) := by
  unfold tpM taut
  rw [take_snoc _ j x hx]
  generalize c.take j = l
  rw [Bool.eq_iff_iff]
  simp only [List.any_eq_true, Bool.or_eq_true, decide_eq_true_eq]
  constructor
  · rintro ⟨n, hn, h2⟩
    rcases List.mem_append.1 hn with hn | hn
    · rcases List.mem_append.1 h2 with h2 | h2
      · exact .inl ⟨n, hn, h2⟩
      · simp at h2
        refine .inr ?_
        rw [← h2, Int.neg_neg]
        simp [hn]
    · simp at hn; subst hn; exact .inr h2
  · rintro (⟨n, hn, h2⟩ | h)
    · exact ⟨n, by simp [hn], by simp [h2]⟩
    · exact ⟨x, by simp, h⟩
theorem bothTo_len (S : Ws) (i : Nat) : (bothTo S i).G.length = S.G.length := by
  induction i with
  | zero => rfl
  | succ i ih =>
    rw [bothTo_succ, ← ih]
    generalize bothTo S i = T
    unfold bothI
    split
    · simp
    · rw [adds_same]
theorem bothTo_G {S : Ws} (hG : S.G = List.replicate S.L.length false) (i : Nat) : ∀ j, i ≤ j → j < S.L.length → (bothTo S i).G[j]? = some false := by
  induction i with
  | zero =>
    intro j _ hj
    show S.G[j]? = some false
    rw [hG, List.getElem?_replicate, if_pos hj]
  | succ i ih =>
    intro j hj hl
    have h1 := ih j (by omega) hl
    rw [bothTo_succ]
    generalize bothTo S i = T at h1
    unfold bothI
    split
    · show (T.G.set i true)[j]? = _
      rw [List.getElem?_set_ne (by omega)]; exact h1
    · rw [adds_same]; exact h1
theorem CntLen.to {S : Ws} (h : CntLen S 0) (i : Nat) : CntLen (bothTo S i) (sizeC (S.L.take i)) := by
  induction i with
  | zero => exact (show CntLen { S with pl := true } 0 from h).mono (by omega)
  | succ i ih =>
    have h2 := ih.both i
    have hL : (bothTo S i).L = S.L := by rw [bothTo_same]
    rw [hL] at h2
    rw [bothTo_succ]
    refine h2.mono ?_
    cases hq : S.L[i]? with
    | none =>
      have : S.L.take (i + 1) = S.L.take i := by
        have := List.getElem?_eq_none_iff.1 hq
        rw [List.take_of_length_le (by omega), List.take_of_length_le (by omega)]
      rw [this]
      simp [List.getD, hq]
    | some c =>
      rw [sizeC_take hq]
      simp [List.getD, hq]
section
variable {w w1 : World} {n0 : Nat} {M : Wm} {S : Ws} {ex : Tw → Prop}
/-- whether a clause is gone is written -/
theorem KW.goneB (h : KW w n0 M S ex) (h2 : ¬ ex .gon) {i g cap : Nat} (hg : M.hd .gon = .slice (some ⟨g, 0, none⟩) S.G.length cap) (b : Bool) :
    KW (w.setCell ⟨g, i, none⟩ (.bool b)) n0 M { S with G := S.G.set i b } ex := by
  refine h.put (t := .gon) rfl rfl h2 (cap := cap) (by rw [hg]; show _ = Value.slice _ (S.G.map bV).length _; rw [List.length_map]) (.bool b) rfl rfl ?_ ?_
  · show (S.G.set i b).map bV = (S.G.map bV).set i (.bool b)
    rw [List.map_set]; rfl
  · intro s hs hne _
    cases s <;> first | rfl | exact absurd rfl hne
/-- behind region 20: the list of lists with one number more -/
theorem st_fin {Wd w6 : World} {M4 : Wm} {U : Ws} {X gs cs a i W : Nat} {sn' : Nat → Int} (hkd : KW Wd n0 M4 U noW) (hW : wide U = W) (haw : a < W) (hstd : M4.hd .std = .slice (some ⟨gs, 0, none⟩) W cs) (htg : M4.tag X = .free) (hxs : X < Wd.heap.size) (hsn : Seen Wd n0 X W sn') (hf : FrW M M4 btT w Wd)
    {g6 q6 : Nat} (ho6 : w6.ownsRow n0 3 1 (.slice (some ⟨g6, 0, none⟩) ((U.st a).length + 1) q6) ((U.st a).length + 1) ((U.st a).map nV ++ [nV i])) (hg6 : Wd.grownBy w6 (M4.hd (.st a)).ownBlock) (hat6 : (M4.hd (.st a)).ownBlock = some g6 ∨ (Wd.heap.size ≤ g6 ∧ g6 < w6.heap.size)) :
    w6.cell? ⟨M4.K, 7, none⟩ = some (.slice (some ⟨gs, 0, none⟩) W cs) ∧ w6.cell? ⟨gs, a, none⟩ = some (M4.hd (.st a)) ∧ w6.frozen? ⟨gs, a, none⟩ = false ∧ (w6.setCell ⟨gs, a, none⟩ (.slice (some ⟨g6, 0, none⟩) ((U.st a).length + 1) q6)).cell? ⟨M4.K, 7, none⟩ = some (.slice (some ⟨gs, 0, none⟩) W cs) ∧
    ∃ M5 : Wm, KW (w6.setCell ⟨gs, a, none⟩ (.slice (some ⟨g6, 0, none⟩) ((U.st a).length + 1) q6)) n0 M5 { U with st := fun b => if b = a then U.st a ++ [i] else U.st b } noW ∧ FrW M M5 btT w (w6.setCell ⟨gs, a, none⟩ (.slice (some ⟨g6, 0, none⟩) ((U.st a).length + 1) q6)) ∧ M5.tag X = .free ∧ M5.hd .lst = M4.hd .lst ∧ (∀ k, M5.hd (.cl k) = M4.hd (.cl k)) ∧
      Seen (w6.setCell ⟨gs, a, none⟩ (.slice (some ⟨g6, 0, none⟩) ((U.st a).length + 1) q6)) n0 X W sn' ∧ X < (w6.setCell ⟨gs, a, none⟩ (.slice (some ⟨g6, 0, none⟩) ((U.st a).length + 1) q6)).heap.size := by
  have hno : ∀ t, ¬ noW t := fun t h => h
  obtain ⟨hk5, f6, hk6, hf6⟩ := hkd.newSt (a := a) (l' := U.st a ++ [i]) (v' := .slice (some ⟨g6, 0, none⟩) ((U.st a).length + 1) q6) (by rw [hW]; exact haw) (by rw [hW]; exact hstd) hg6 (by rw [List.length_append, List.map_append]; exact ho6) (hat6.elim (fun e => .inl e.symm) (fun e => .inr ⟨g6, rfl, e⟩))
  have hne : ∀ t, t ≠ .st a → ¬ orW noW (.st a) t := fun t h1 h2 => h2.elim (fun h => h) h1
  obtain ⟨gs', cs', t1, t2, t3, _⟩ := hk5.at (t := .std) rfl (hne _ (by simp)) (j := a) (x := M4.hd (.st a)) (by
    show ((List.range (wide U)).map fun b => M4.hd (.st b))[a]? = _
    rw [List.getElem?_map, List.getElem?_range (by rw [hW]; exact haw)]; rfl)
  have e7 : (ctW U M4.hd .std).length = W := by
    show ((List.range (wide U)).map fun b => M4.hd (.st b)).length = _
    rw [List.length_map, List.length_range]; exact hW
  rw [hstd, e7] at t1
  cases t1
  have n1 : (putH M4.hd (.st a) (.slice (some ⟨g6, 0, none⟩) ((U.st a).length + 1) q6)) .std = M4.hd .std := putH_ne _ _ (by simp)
  refine ⟨by rw [← hstd]; exact hk5.cStd (hne _ (by simp)), t2, t3, ?_, _, hk6, hf.trans (hf6.mono (fun t ht => by rcases ht with ht | ht; exact .inr (.inr (.inl ht)); exact .inr (.inr (.inr (.inr ⟨a, ht⟩))))), (hf6.tags X hxs).trans htg, putH_ne (t := .st a) (s := .lst) M4.hd (.slice (some ⟨g6, 0, none⟩) ((U.st a).length + 1) q6) (by simp), fun k => putH_ne (t := .st a) (s := .cl k) M4.hd (.slice (some ⟨g6, 0, none⟩) ((U.st a).length + 1) q6) (by simp), ?_, Nat.lt_of_lt_of_le hxs hf6.size⟩
  · have h1 := hk6.cStd (hno _)
    rw [← hstd, ← n1]
    exact h1
  · have h1 : Seen w6 n0 X W sn' := hsn.kept hg6 (fun e => by
      have h2 := hkd.thn (t := .st a) rfl rfl e
      rw [htg] at h2
      cases h2)
    refine h1.kept (row := some gs) ⟨rfl, rfl, rfl, by simp, fun k _ hk => heap_setCell_other _ _ k _ (fun e => hk (by simp [e]))⟩ (fun e => ?_)
    have h2 := hkd.thn (t := .std) (b := gs) rfl rfl (by rw [hstd]; rfl)
    rw [Option.some.inj e, htg] at h2
    cases h2
set_option maxHeartbeats 4000000 in
set_option maxRecDepth 100000 in
theorem both29_any (h : KW w n0 M S noW) (hs : Sz S) (h0 : S.pl = false → S.G = List.replicate S.L.length false ∧ CntLen S 0) :
    Calls Try.prog 24 #[.pointer (some ⟨M.K, 0, none⟩)] w fun e w' => e = .returned (.bool (!S.pl && S.L.any taut)) ∧ ∃ M', KW w' n0 M' (if S.pl then S else bothTo S S.L.length) noW ∧ FrW M M' btT w w' := by
  have hno : ∀ t, ¬ noW t := fun t h => h
  have hc3 := h.cPl (hno _)
  have HK := Lib.hid h
  have HS := Lib.hid hs
  have H0 := Lib.hid h0
  clear h hs h0
  obtain ⟨b, hb⟩ : ∃ b, S.pl = b := ⟨_, rfl⟩
  rw [hb] at hc3 ⊢
  have HB := Lib.hid hb
  clear hb
  go_enter Try.func24, Try.ntmps24
  cases b with
  | true =>
    go_wp2
    go_ret
    exact ⟨rfl, M, HK.out, FrW.refl _ _ _⟩
  | false =>
    obtain ⟨hG0, hC0⟩ := H0.out HB.out
    have HG0 := Lib.hid hG0
    have HC0 := Lib.hid hC0
    have hf3 := HK.out.froz (hno _) 3
    have HKA := Lib.hid (show KW (w.setCell ⟨M.K, 3, none⟩ (.bool true)) n0 M (bothTo S 0) noW from HK.out.setTop (S' := { S with pl := true }) (hno _) 3 (.bool true) (fun _ => rfl) rfl (fun s hs _ => by cases s <;> rfl))
    have HFA := Lib.hid (show FrW M M btT w (w.setCell ⟨M.K, 3, none⟩ (.bool true)) from FrW.put (ts := btT) _ M _ _ (.inl HK.out.tK))
    clear hG0 hC0
    go_upto_region 4 with fail
    generalize w.setCell ⟨M.K, 3, none⟩ (.bool true) = W1 at HKA HFA ⊢
    clear hc3 hf3
    have hq0 : W1.cell? ⟨M.K, 0, none⟩ = some (.int .i64 (S.vars : Int)) := HKA.out.cVars (hno _)
    have hv6 := HS.out.vars
    have hL6 : S.L.length ≤ 1000000 := Nat.le_trans (size_len _) HS.out.size
    have hw2 : IntKind.i64.wrap (2 * (S.vars : Int)) = 2 * (S.vars : Int) := IntWalk.i64_in _ ⟨by omega, by omega⟩
    have hw3 : IntKind.i64.wrap (2 * (S.vars : Int) + 1) = 2 * (S.vars : Int) + 1 := IntWalk.i64_in _ ⟨by omega, by omega⟩
    obtain ⟨i0, hi, hz0, hz1, hz2⟩ := info_parts int29_info
    have hws : wide S ≤ 1000000 := by unfold wide; omega
    have hn0 := HKA.out.base
    go_upto_region 5 with fail
    go_wp2_with (at_make; refine wpList_make_full _ rfl _ _ 27 rfl n0 3 i0 (.int .i64 0) 1 Try.underlying27 hi hz0 hz1 .i64 .i64 _ _ (wide S) rfl rfl (by unfold wide; omega) (by unfold wide; omega) (by rw [hz2]; omega) (by unfold maxLen; omega) hn0 ?_)
    intro w3 hown hgrow
    generalize hX : W1.heap.size = X at hown ⊢
    have HX := Lib.hid (show M.tag X = .free ∧ X < w3.heap.size ∧ W1.heap.size ≤ X from ⟨by rw [← hX]; exact HKA.out.fresh _ (Nat.le_refl _), (hown.lt X rfl).2, Nat.le_of_eq hX⟩)
    have HXW := Lib.hid (show w.heap.size ≤ X from Nat.le_trans HFA.out.size HX.out.2.2)
    have hsn : Seen w3 n0 X (wide S) (fun _ => 0) := by
      have e : (madeCells #[Value.int .i64 0] (wide S)).toList = (List.range (wide S)).map fun _ => iV 0 := by
        rw [List.map_const', List.length_range]
        exact toList_madeCells_one _ _
      rw [e] at hown
      exact hown
    have HSN := Lib.hid hsn
    have HK3 := Lib.hid (HKA.out.keep0 hgrow)
    have HF3 := Lib.hid (show FrW M M btT w w3 from HFA.out.trans (FrW.of hgrow (fun b hb => by cases hb)))
    clear hown hgrow hsn hq0 hw2 hw3 hi hz0 hz1 hz2 hX hn0
    have hq1 := HK3.out.cLst (hno _)
    obtain ⟨la, lc, hl0⟩ := HK3.out.shape (t := .lst) rfl (hno _)
    have e5 : ctW (bothTo S 0) M.hd .lst = (List.range S.L.length).map fun i => M.hd (.cl i) := rfl
    rw [e5, List.length_map, List.length_range] at hl0
    rw [hl0] at hq1
    have HL0 := Lib.hid hl0
    have hLI : (S.L.length : Int) ≤ 1000000 := by omega
    clear e5 hl0
    go_wp2_with fail
    go_loopw [3, 5, 6, 8, 10, 30] (fun fd z5 z6 z8 z10 q wr => ∃ i : Nat, ∃ M3 : Wm, ∃ sn : Nat → Int, i ≤ S.L.length ∧ q = .int .i64 i ∧ fd = .bool ((S.L.take i).any taut) ∧ KW wr n0 M3 (bothTo S i) noW ∧ FrW M M3 btT w wr ∧
      M3.tag X = .free ∧ M3.hd .lst = M.hd .lst ∧ Seen wr n0 X (wide S) sn ∧ (∀ a, sn a ≤ i) ∧ X < wr.heap.size) (fun _ _ _ _ _ q _ => S.L.length - (intOf q).toNat)
    case atStart => exact ⟨0, M, fun _ => 0, by omega, rfl, rfl, HK3.out, HF3.out, HX.out.1, rfl, HSN.out, fun _ => by simp, HX.out.2.1⟩
    case round =>
      obtain ⟨i, M3, sn, hi, rfl, rfl, hkk, hff, htg, hll, hsn, hle, hxs⟩ := hrel
      have hMK3 : M3.K = M.K := hff.K
      have HKK := Lib.hid hkk
      have HFF := Lib.hid hff
      have HLL := Lib.hid hll
      have HTG := Lib.hid htg
      have HSN3 := Lib.hid hsn
      have HLE := Lib.hid hle
      have HXS := Lib.hid hxs
      obtain ⟨T, hT⟩ : ∃ T, T = bothTo S i := ⟨_, rfl⟩
      rw [← hT] at hkk HKK
      have HT := Lib.hid (show T = { S with pl := true, G := T.G, st := T.st, cn := T.cn } from by rw [hT]; exact bothTo_same S i)
      have HTE := Lib.hid hT
      have hTL : T.L = S.L := by rw [HT.out]
      have hTV : T.vars = S.vars := by rw [HT.out]
      have hTW : wide T = wide S := by unfold wide; rw [hTV]
      have HTG2 := Lib.hid (show T.G.length = S.L.length from by rw [hT, bothTo_len]; exact HS.out.gl)
      have HCL := Lib.hid (show CntLen T (sizeC (S.L.take i)) from by rw [hT]; exact HC0.out.to i)
      by_cases hlt : i < S.L.length
      · obtain ⟨c, hc⟩ : ∃ c, S.L[i]? = some c := ⟨_, List.getElem?_eq_getElem hlt⟩
        obtain ⟨g, cap, e1, e2, e3, e4, er, ca, cc, es⟩ := hkk.clause (hno _) (hno _) (i := i) (c := c) (by rw [hTL]; exact hc)
        rw [hTL, hll, HL0.out] at e1
        cases e1
        rw [es] at e2
        have hiI : (i : Int) < (S.L.length : Int) := by omega
        have HFD := Lib.hid (show ((S.L.take (i + 1)).any taut) = (((S.L.take i).any taut) || taut c) from by rw [take_snoc _ i c hc]; simp [List.any_append])
        have HC := Lib.hid hc
        have HES := Lib.hid es
        have hcl6 : c.length ≤ 1000000 := by have h1 := size_mem (List.mem_of_getElem? hc); have h2 := HS.out.size; omega
        have HGI := Lib.hid (show T.G[i]? = some false from by rw [hT]; exact bothTo_G HG0.out i i (Nat.le_refl _) hlt)
        have HG0S := Lib.hid (show T.G.set i false = T.G from set_self29 (by rw [hT]; exact bothTo_G HG0.out i i (Nat.le_refl _) hlt))
        have HLT := Lib.hid (show ∀ x ∈ c, -(S.vars : Int) ≤ x ∧ x ≤ (S.vars : Int) from fun x hx => by have := HS.out.lits c (List.mem_of_getElem? hc) x hx; omega)
        have hi1w : IntKind.i64.wrap ((i : Int) + 1) = (i : Int) + 1 := IntWalk.i64_in _ ⟨by omega, by omega⟩
        have hcI : (c.length : Int) ≤ 1000000 := by omega
        have HKC := Lib.hid (show KW wr n0 M3 { T with G := T.G.set i (tpM c 0) } noW from by
          have : tpM c 0 = false := by simp [tpM, taut]
          rw [this, set_self29 HGI.out]; exact hkk)
        generalize hfd : (S.L.take i).any taut = fd at HFD ⊢
        clear hfd hkk hff htg hll hsn hle hxs er es e4 hT hc
        go_wp2_with fail
        go_loopw [8, 37] (fun z q wr' => ∃ j : Nat, ∃ sn' : Nat → Int, j ≤ c.length ∧ q = .int .i64 j ∧ KW wr' n0 M3 { T with G := T.G.set i (tpM c j) } noW ∧ Seen wr' n0 X (wide S) sn' ∧
            (∀ a, sn' a = (i : Int) + 1 ↔ ∃ n ∈ c.take j, posN S.vars n = a) ∧ (∀ a, sn' a ≤ (i : Int) + 1) ∧ FrW M M3 btT w wr' ∧ X < wr'.heap.size) (fun _ q _ => c.length - (intOf q).toNat)
        case atStart => exact ⟨0, sn, by omega, rfl, HKC.out, HSN3.out, fun a => ⟨fun h => by have := HLE.out a; omega, fun h => by simp at h⟩, fun a => by have := HLE.out a; omega, HFF.out, HXS.out⟩
        case round =>
          obtain ⟨j, sn', hj, rfl, hkk, hsn, hse, hsl, hff, hxs'⟩ := hrel
          have HKK2 := Lib.hid hkk
          have HSN2 := Lib.hid hsn
          have HSE := Lib.hid hse
          have HSL := Lib.hid hsl
          have HFF2 := Lib.hid hff
          have HXS2 := Lib.hid hxs'
          by_cases hlt2 : j < c.length
          · obtain ⟨x, hx⟩ : ∃ x, c[j]? = some x := ⟨_, List.getElem?_eq_getElem hlt2⟩
            obtain ⟨b1, rfl, hxc⟩ : ∃ b1, ca = some b1 ∧ wr.cell? (b1.add j) = some (iV x) := by
              obtain ⟨_, _, _, _, _, _, hrd, _⟩ := hkk.clause (hno _) (hno _) (i := i) (c := c) (by show T.L[i]? = _; rw [hTL]; exact HC.out)
              rw [HES.out] at hrd
              exact reads_elem hrd hx
            have hxc2 : wr.cell? (b1.add j) = some (.int .i64 x) := hxc
            clear hxc
            have hx2 := HLT.out x (List.mem_of_getElem? hx)
            obtain ⟨a, ha⟩ : ∃ a : Nat, x + (S.vars : Int) = (a : Int) := ⟨(x + (S.vars : Int)).toNat, by omega⟩
            obtain ⟨a2, ha2⟩ : ∃ a2 : Nat, -x + (S.vars : Int) = (a2 : Int) := ⟨(-x + (S.vars : Int)).toNat, by omega⟩
            have hpa : posN S.vars x = a := by unfold posN; rw [ha]; simp
            have hpa2 : posN S.vars (-x) = a2 := by unfold posN; rw [ha2]; simp
            have haw : a < wide S := by unfold wide; omega
            have haw2 : a2 < wide S := by unfold wide; omega
            have HA1 := Lib.hid (at29_any hkk (hno _) x a (by show x + (T.vars : Int) = _; rw [hTV]; exact ha) (by omega))
            rw [hMK3] at HA1
            obtain ⟨hxa, hfa⟩ := hsn.cell haw
            have hpt := hsn.put (a := a) (z := (i : Int) + 1) (f := fun b => if b = a then (i : Int) + 1 else sn' b) (fun b => rfl)
            have hsp := hpt.1
            have hkp := hkk.seen (by exact HTG.out) hpt.2
            have HFP := Lib.hid (show FrW M M3 btT w (wr.setCell ⟨X, a, none⟩ (.int .i64 ((i : Int) + 1))) from ⟨hff.os, hff.tape, hff.output, Nat.le_trans hff.size hpt.2.size, fun b hb hn => (hpt.2.block b (Nat.lt_of_lt_of_le hb hff.size) (fun e => by have h1 := HXW.out; have h2 := Option.some.inj e; omega)).trans (hff.block b hb hn), hff.tags, hff.K⟩)
            have hse2 : ∀ b, (if b = a then (i : Int) + 1 else sn' b) = (i : Int) + 1 ↔ ∃ n ∈ c.take (j + 1), posN S.vars n = b := fun b => by
              rw [take_snoc _ j x hx]
              by_cases hba : b = a
              · subst hba
                rw [if_pos rfl]
                exact ⟨fun _ => ⟨x, by simp, hpa⟩, fun _ => rfl⟩
              · rw [if_neg hba, hse b]
                constructor
                · rintro ⟨n, hn, h2⟩; exact ⟨n, by simp [hn], h2⟩
                · rintro ⟨n, hn, h2⟩
                  rcases List.mem_append.1 hn with hn | hn
                  · exact ⟨n, hn, h2⟩
                  · simp at hn; subst hn; exact absurd (h2.symm.trans hpa) hba
            have HSE2 := Lib.hid hse2
            have HSL2 := Lib.hid (show ∀ b, (if b = a then (i : Int) + 1 else sn' b) ≤ (i : Int) + 1 from fun b => by
              by_cases hba : b = a
              · rw [if_pos hba]; omega
              · rw [if_neg hba]; exact hsl b)
            have HTP := Lib.hid (tpM_succ hx)
            have HIN := Lib.hid (show (if a2 = a then (i : Int) + 1 else sn' a2) = (i : Int) + 1 ↔ -x ∈ c.take (j + 1) from by
              rw [hse2 a2]
              constructor
              · rintro ⟨n, hn, h2⟩
                have hn2 := HLT.out n (List.mem_of_mem_take hn)
                have : n = -x := by unfold posN at h2; omega
                rw [← this]; exact hn
              · intro h; exact ⟨-x, h, hpa2⟩)
            obtain ⟨z, hz⟩ : ∃ z, z = (if a2 = a then (i : Int) + 1 else sn' a2) := ⟨_, rfl⟩
            rw [← hz] at HIN
            obtain ⟨hxz, _⟩ := hsp.cell haw2
            have hxz : (wr.setCell ⟨X, a, none⟩ (.int .i64 ((i : Int) + 1))).cell? ⟨X, a2, none⟩ = some (.int .i64 z) := by rw [hz]; exact hxz
            have hneg : IntKind.i64.wrap (-x) = -x := IntWalk.i64_in _ ⟨by omega, by omega⟩
            have hjI : (j : Int) < (c.length : Int) := by omega
            have haI : (a : Int) < ((wide S : Nat) : Int) := by omega
            have haI2 : (a2 : Int) < ((wide S : Nat) : Int) := by omega
            have hwI : ((wide S : Nat) : Int) ≤ 1000000 := by omega
            go_upto_region 12 with fail
            go_wp2_with fail
            refine HA1.out.mono ?_
            rintro e w1 ⟨rfl, hw⟩
            obtain rfl : wr = w1 := hw.symm
            go_upto_region 13 with fail
            generalize wr.setCell ⟨X, a, none⟩ (.int .i64 ((i : Int) + 1)) = W2 at hkp HFP hsp hxz ⊢
            have HA2 := Lib.hid (at29_any hkp.drew (hno _) (-x) a2 (by show -x + (T.vars : Int) = _; rw [hTV]; exact ha2) (by omega))
            rw [hMK3] at HA2
            obtain ⟨gg, gcap, v1, v2, v3, v4⟩ := hkp.drew.goneAt (hno _) (i := i) (b := tpM c j) (by show (T.G.set i (tpM c j))[i]? = _; rw [List.getElem?_set_self (by rw [HTG2.out]; exact hlt)])
            have hlen : (({ T with G := T.G.set i (tpM c j) } : Ws).G).length = S.L.length := by show (T.G.set i (tpM c j)).length = _; rw [List.length_set]; exact HTG2.out
            have hq2 : W2.drew.cell? ⟨M.K, 2, none⟩ = some (M3.hd .gon) := by rw [← hMK3]; exact hkp.drew.cGon (hno _)
            have HKG := Lib.hid (fun b => hkp.drew.goneB (hno _) (i := i) v1 b)
            rw [v1, hlen] at hq2
            have HSG := Lib.hid (show ∀ b, Seen (W2.drew.setCell ⟨gg, i, none⟩ (.bool b)) n0 X (wide S) (fun b => if b = a then (i : Int) + 1 else sn' b) from fun b => (show Seen W2.drew n0 X (wide S) _ from hsp.kept (row := none) ⟨rfl, rfl, rfl, Nat.le_refl _, fun _ _ _ => rfl⟩ (by simp)).kept (row := some gg) ⟨rfl, rfl, rfl, by simp, fun k _ hk => heap_setCell_other _ _ k _ (fun e => hk (by simp [e]))⟩ (fun e => by
              have h1 := HTG.out
              rw [← Option.some.inj e, v4] at h1
              cases h1))
            have HFG := Lib.hid (show ∀ b, FrW M M3 btT w (W2.drew.setCell ⟨gg, i, none⟩ (.bool b)) from fun b => HFP.out.drew.trans (FrW.put (ts := btT) _ M3 _ _ (.inr (.inl v4))))
            have hsr : X < W2.heap.size := (hsp.lt X rfl).2
            have HXG := Lib.hid (show ∀ b, X < (W2.drew.setCell ⟨gg, i, none⟩ (.bool b)).heap.size from fun b => by simpa using hsr)
            have hxz : W2.drew.cell? ⟨X, a2, none⟩ = some (.int .i64 z) := hxz
            have HST := Lib.hid (show ∀ b, (W2.drew.setCell ⟨gg, i, none⟩ (.bool b)).cell? ⟨M.K, 2, none⟩ = some (.slice (some ⟨gg, 0, none⟩) S.L.length gcap) ∧ (W2.drew.setCell ⟨gg, i, none⟩ (.bool b)).cell? ⟨X, a2, none⟩ = some (.int .i64 z) from fun b => by
              have n1 : gg ≠ M.K := fun e => by
                have h1 := hkp.tK
                rw [hMK3, ← e, v4] at h1
                cases h1
              have n2 : gg ≠ X := fun e => by
                have h1 := HTG.out
                rw [← e, v4] at h1
                cases h1
              rw [World.cell?_setCell_far _ _ _ _ (by exact n1), World.cell?_setCell_far _ _ _ _ (by exact n2)]
              exact ⟨hq2, hxz⟩)
            have HFIN := Lib.hid (show ∀ b, tpM c (j + 1) = b → ∃ sn2 : Nat → Int, KW (W2.drew.setCell ⟨gg, i, none⟩ (.bool b)) n0 M3 { T with G := T.G.set i (tpM c (j + 1)) } noW ∧ Seen (W2.drew.setCell ⟨gg, i, none⟩ (.bool b)) n0 X (wide S) sn2 ∧ (∀ a, sn2 a = (i : Int) + 1 ↔ ∃ n ∈ c.take (j + 1), posN S.vars n = a) ∧ (∀ a, sn2 a ≤ (i : Int) + 1) ∧ FrW M M3 btT w (W2.drew.setCell ⟨gg, i, none⟩ (.bool b)) ∧ X < (W2.drew.setCell ⟨gg, i, none⟩ (.bool b)).heap.size from fun b hb => by
              have h1 := HKG.out b
              have e : (T.G.set i (tpM c j)).set i b = T.G.set i (tpM c (j + 1)) := by rw [List.set_set, hb]
              refine ⟨_, ?_, HSG.out b, HSE2.out, HSL2.out, HFG.out b, HXG.out b⟩
              rw [← e]; exact h1)
            clear hkk hsn hse hsl hff hxs' hx hx2 ha ha2 hpa hpa2 haw haw2 hpt hsp hkp hxa hfa hxc2 hse2 hz v1 v4 hlen hsr HSG HFG HXG HKG HKK2 HSN2 HSE HSL HFF2 HXS2
            generalize hwd : wide S = wd at haI haI2 hwI HFIN ⊢
            cases htp : tpM c j with
            | true =>
              rw [htp] at v2
              have HR := Lib.hid (HFIN.out true (by rw [HTP.out, htp]; rfl))
              clear HFIN htp
              clear hTL hTV hTW
              refine wp_region_held_drew (S := (fun w' => w'.cell? ⟨M.K, 2, none⟩ = some (.slice (some ⟨gg, 0, none⟩) S.L.length gcap) ∧ w'.cell? ⟨X, a2, none⟩ = some (.int .i64 z))) (by kernel_rfl) (by (try dsimp only); exact ⟨hq2, hxz⟩) (fun hHeld => ?_)
              refine wpAnyH_take (i := 0) (v := ?_) (by (simp only [List.getElem?_toArray, List.getElem?_cons_succ, List.getElem?_cons_zero]; rfl)) (by kernel_rfl) (by kernel_rfl) (by kernel_rfl) (by intro _ _ _ h; exact h) (Or.inl ⟨by rfl, ?_⟩) (by assumption) ?_
              rotate_left
              · (intro w hSw; (try dsimp only at hSw); obtain ⟨q0, q1⟩ := hSw; go_simp; try (with_reducible rfl))
              simp only [Act.put, List.setIfInBounds_toArray, List.set_cons_zero, List.set_cons_succ]
              refine wpAnyH_take (i := 1) (v := ?_) (by (simp only [List.getElem?_toArray, List.getElem?_cons_succ, List.getElem?_cons_zero]; rfl)) (by kernel_rfl) (by kernel_rfl) (by kernel_rfl) (by intro _ _ _ h; exact h) (Or.inl ⟨by rfl, ?_⟩) (by assumption) ?_
              rotate_left
              · (intro w hSw; (try dsimp only at hSw); obtain ⟨q0, q1⟩ := hSw; go_simp; try (with_reducible rfl))
              simp only [Act.put, List.setIfInBounds_toArray, List.set_cons_zero, List.set_cons_succ]
              refine wpAnyH_take (i := 2) (v := ?_) (by (simp only [List.getElem?_toArray, List.getElem?_cons_succ, List.getElem?_cons_zero]; rfl)) (by kernel_rfl) (by kernel_rfl) (by kernel_rfl) (by intro _ _ _ h; exact h) (Or.inl ⟨by rfl, ?_⟩) (by assumption) ?_
              rotate_left
              · (intro w hSw; (try dsimp only at hSw); obtain ⟨q0, q1⟩ := hSw; go_simp; try (with_reducible rfl))
              simp only [Act.put, List.setIfInBounds_toArray, List.set_cons_zero, List.set_cons_succ]
              refine wpAnyH_take (i := 3) (v := ?_) (by (simp only [List.getElem?_toArray, List.getElem?_cons_succ, List.getElem?_cons_zero]; rfl)) (by kernel_rfl) (by kernel_rfl) (by kernel_rfl) (by intro _ _ _ h; exact h) (Or.inl ⟨by rfl, ?_⟩) (by assumption) ?_
              rotate_left
              · (intro w hSw; (try dsimp only at hSw); obtain ⟨q0, q1⟩ := hSw; go_simp; try (with_reducible rfl))
              simp only [Act.put, List.setIfInBounds_toArray, List.set_cons_zero, List.set_cons_succ]
              refine wpAnyH_take (i := 4) (v := ?_) (by (simp only [List.getElem?_toArray, List.getElem?_cons_succ, List.getElem?_cons_zero]; rfl)) (by kernel_rfl) (by kernel_rfl) (by kernel_rfl) (by intro _ _ _ h; exact h) (Or.inl ⟨by rfl, ?_⟩) (by assumption) ?_
              rotate_left
              · (intro w hSw; (try dsimp only at hSw); obtain ⟨q0, q1⟩ := hSw; go_simp; try (with_reducible rfl))
              simp only [Act.put, List.setIfInBounds_toArray, List.set_cons_zero, List.set_cons_succ]
              refine wpAnyH_take (i := 5) (v := ?_) (by (simp only [List.getElem?_toArray, List.getElem?_cons_succ, List.getElem?_cons_zero]; rfl)) (by kernel_rfl) (by kernel_rfl) (by kernel_rfl) (by intro _ _ _ h; exact h) (Or.inl ⟨by rfl, ?_⟩) (by assumption) ?_
              rotate_left
              · (intro w hSw; (try dsimp only at hSw); obtain ⟨q0, q1⟩ := hSw; go_simp; try (with_reducible rfl))
              simp only [Act.put, List.setIfInBounds_toArray, List.set_cons_zero, List.set_cons_succ]
              refine wpAnyH_take (i := 6) (v := ?_) (by (simp only [List.getElem?_toArray, List.getElem?_cons_succ, List.getElem?_cons_zero]; rfl)) (by kernel_rfl) (by kernel_rfl) (by kernel_rfl) (by intro _ _ _ h; exact h) (Or.inl ⟨by rfl, ?_⟩) (by assumption) ?_
              rotate_left
              · (intro w hSw; (try dsimp only at hSw); obtain ⟨q0, q1⟩ := hSw; go_simp; try (with_reducible rfl))
              simp only [Act.put, List.setIfInBounds_toArray, List.set_cons_zero, List.set_cons_succ]
              refine wpAnyH_take (i := 7) (v := ?_) (by (simp only [List.getElem?_toArray, List.getElem?_cons_succ, List.getElem?_cons_zero]; rfl)) (by kernel_rfl) (by kernel_rfl) (by kernel_rfl) (by intro _ _ _ h; exact h) (Or.inl ⟨by rfl, ?_⟩) (by assumption) ?_
              rotate_left
              · (intro w hSw; (try dsimp only at hSw); obtain ⟨q0, q1⟩ := hSw; go_simp; try (with_reducible rfl))
              simp only [Act.put, List.setIfInBounds_toArray, List.set_cons_zero, List.set_cons_succ]
              refine wpAnyH_take (i := 8) (v := ?_) (by (simp only [List.getElem?_toArray, List.getElem?_cons_succ, List.getElem?_cons_zero]; rfl)) (by kernel_rfl) (by kernel_rfl) (by kernel_rfl) (by intro _ _ _ h; exact h) (Or.inl ⟨by rfl, ?_⟩) (by assumption) ?_
              rotate_left
              · (intro w hSw; (try dsimp only at hSw); obtain ⟨q0, q1⟩ := hSw; go_simp; try (with_reducible rfl))
              simp only [Act.put, List.setIfInBounds_toArray, List.set_cons_zero, List.set_cons_succ]
              refine wpAnyH_take (i := 9) (v := ?_) (by (simp only [List.getElem?_toArray, List.getElem?_cons_succ, List.getElem?_cons_zero]; rfl)) (by kernel_rfl) (by kernel_rfl) (by kernel_rfl) (by intro _ _ _ h; exact h) (Or.inl ⟨by rfl, ?_⟩) (by assumption) ?_
              rotate_left
              · (intro w hSw; (try dsimp only at hSw); obtain ⟨q0, q1⟩ := hSw; go_simp; try (with_reducible rfl))
              simp only [Act.put, List.setIfInBounds_toArray, List.set_cons_zero, List.set_cons_succ]
              refine wpAnyH_take (i := 10) (v := ?_) (by (simp only [List.getElem?_toArray, List.getElem?_cons_succ, List.getElem?_cons_zero]; rfl)) (by kernel_rfl) (by kernel_rfl) (by kernel_rfl) (by intro _ _ _ h; exact h) (Or.inl ⟨by rfl, ?_⟩) (by assumption) ?_
              rotate_left
              · (intro w hSw; (try dsimp only at hSw); obtain ⟨q0, q1⟩ := hSw; go_simp; try (with_reducible rfl))
              simp only [Act.put, List.setIfInBounds_toArray, List.set_cons_zero, List.set_cons_succ]
              refine wpAnyH_ready (rs := [11]) (by kernel_rfl) (by simp) ?_
              refine AllReadyH.cons (by (simp only [List.getElem?_toArray, List.getElem?_cons_succ, List.getElem?_cons_zero]; rfl)) (fun K hK => ?_) AllReadyH.nil
              go_simp
              skip
              refine hK.out _ _ (by (try dsimp only); exact ⟨hq2, hxz⟩) (fun hHeld => ?_)
              clear hK K
              try simp only [Act.put, List.setIfInBounds_toArray, List.set_cons_zero, List.set_cons_succ]
              refine wpAnyH_take (i := 12) (v := ?_) (by (simp only [List.getElem?_toArray, List.getElem?_cons_succ, List.getElem?_cons_zero]; rfl)) (by kernel_rfl) (by kernel_rfl) (by kernel_rfl) (by intro _ _ _ h; exact h) (Or.inl ⟨by rfl, ?_⟩) (by assumption) ?_
              rotate_left
              · (intro w hSw; (try dsimp only at hSw); obtain ⟨q0, q1⟩ := hSw; go_simp; try (with_reducible rfl))
              simp only [Act.put, List.setIfInBounds_toArray, List.set_cons_zero, List.set_cons_succ]
              refine wpAnyH_take (i := 13) (v := undef) (by (simp only [List.getElem?_toArray, List.getElem?_cons_succ, List.getElem?_cons_zero]; rfl)) (by kernel_rfl) (by kernel_rfl) (by kernel_rfl) (by intro _ _ _ h; exact h) (Or.inr ⟨by rfl, rfl⟩) (by assumption) ?_
              simp only [Act.put, List.setIfInBounds_toArray, List.set_cons_zero, List.set_cons_succ]
              refine wpAnyH_take (i := 14) (v := undef) (by (simp only [List.getElem?_toArray, List.getElem?_cons_succ, List.getElem?_cons_zero]; rfl)) (by kernel_rfl) (by kernel_rfl) (by kernel_rfl) (by intro _ _ _ h; exact h) (Or.inr ⟨by rfl, rfl⟩) (by assumption) ?_
              simp only [Act.put, List.setIfInBounds_toArray, List.set_cons_zero, List.set_cons_succ]
              refine wpAnyH_take (i := 15) (v := undef) (by (simp only [List.getElem?_toArray, List.getElem?_cons_succ, List.getElem?_cons_zero]; rfl)) (by kernel_rfl) (by kernel_rfl) (by kernel_rfl) (by intro _ _ _ h; exact h) (Or.inr ⟨by rfl, rfl⟩) (by assumption) ?_
              simp only [Act.put, List.setIfInBounds_toArray, List.set_cons_zero, List.set_cons_succ]
              refine wpAnyH_take (i := 16) (v := undef) (by (simp only [List.getElem?_toArray, List.getElem?_cons_succ, List.getElem?_cons_zero]; rfl)) (by kernel_rfl) (by kernel_rfl) (by kernel_rfl) (by intro _ _ _ h; exact h) (Or.inr ⟨by rfl, rfl⟩) (by assumption) ?_
              simp only [Act.put, List.setIfInBounds_toArray, List.set_cons_zero, List.set_cons_succ]
              refine wpAnyH_take (i := 17) (v := undef) (by (simp only [List.getElem?_toArray, List.getElem?_cons_succ, List.getElem?_cons_zero]; rfl)) (by kernel_rfl) (by kernel_rfl) (by kernel_rfl) (by intro _ _ _ h; exact h) (Or.inr ⟨by rfl, rfl⟩) (by assumption) ?_
              simp only [Act.put, List.setIfInBounds_toArray, List.set_cons_zero, List.set_cons_succ]
              refine wpAnyH_take (i := 18) (v := undef) (by (simp only [List.getElem?_toArray, List.getElem?_cons_succ, List.getElem?_cons_zero]; rfl)) (by kernel_rfl) (by kernel_rfl) (by kernel_rfl) (by intro _ _ _ h; exact h) (Or.inr ⟨by rfl, rfl⟩) (by assumption) ?_
              simp only [Act.put, List.setIfInBounds_toArray, List.set_cons_zero, List.set_cons_succ]
              refine wpAnyH_take (i := 19) (v := undef) (by (simp only [List.getElem?_toArray, List.getElem?_cons_succ, List.getElem?_cons_zero]; rfl)) (by kernel_rfl) (by kernel_rfl) (by kernel_rfl) (by intro _ _ _ h; exact h) (Or.inr ⟨by rfl, rfl⟩) (by assumption) ?_
              simp only [Act.put, List.setIfInBounds_toArray, List.set_cons_zero, List.set_cons_succ]
              refine wpAnyH_take (i := 20) (v := undef) (by (simp only [List.getElem?_toArray, List.getElem?_cons_succ, List.getElem?_cons_zero]; rfl)) (by kernel_rfl) (by kernel_rfl) (by kernel_rfl) (by intro _ _ _ h; exact h) (Or.inr ⟨by rfl, rfl⟩) (by assumption) ?_
              simp only [Act.put, List.setIfInBounds_toArray, List.set_cons_zero, List.set_cons_succ]
              refine wpAnyH_take (i := 21) (v := undef) (by (simp only [List.getElem?_toArray, List.getElem?_cons_succ, List.getElem?_cons_zero]; rfl)) (by kernel_rfl) (by kernel_rfl) (by kernel_rfl) (by intro _ _ _ h; exact h) (Or.inr ⟨by rfl, rfl⟩) (by assumption) ?_
              simp only [Act.put, List.setIfInBounds_toArray, List.set_cons_zero, List.set_cons_succ]
              refine wpAnyH_take (i := 22) (v := undef) (by (simp only [List.getElem?_toArray, List.getElem?_cons_succ, List.getElem?_cons_zero]; rfl)) (by kernel_rfl) (by kernel_rfl) (by kernel_rfl) (by intro _ _ _ h; exact h) (Or.inr ⟨by rfl, rfl⟩) (by assumption) ?_
              simp only [Act.put, List.setIfInBounds_toArray, List.set_cons_zero, List.set_cons_succ]
              refine wpAnyH_take (i := 23) (v := ?_) (by (simp only [List.getElem?_toArray, List.getElem?_cons_succ, List.getElem?_cons_zero]; rfl)) (by kernel_rfl) (by kernel_rfl) (by kernel_rfl) (by intro _ _ _ h; exact h) (Or.inl ⟨by rfl, ?_⟩) (by assumption) ?_
              rotate_left
              · (intro w hSw; (try dsimp only at hSw); obtain ⟨q0, q1⟩ := hSw; go_simp; try (with_reducible rfl))
              simp only [Act.put, List.setIfInBounds_toArray, List.set_cons_zero, List.set_cons_succ]
              refine wpAnyH_take (i := 24) (v := ?_) (by (simp only [List.getElem?_toArray, List.getElem?_cons_succ, List.getElem?_cons_zero]; rfl)) (by kernel_rfl) (by kernel_rfl) (by kernel_rfl) (by intro _ _ _ h; exact h) (Or.inl ⟨by rfl, ?_⟩) (by assumption) ?_
              rotate_left
              · (intro w hSw; (try dsimp only at hSw); obtain ⟨q0, q1⟩ := hSw; go_simp; try (with_reducible rfl))
              simp only [Act.put, List.setIfInBounds_toArray, List.set_cons_zero, List.set_cons_succ]
              refine wpAnyH_ready (rs := [25]) (by kernel_rfl) (by simp) ?_
              refine AllReadyH.cons (by (simp only [List.getElem?_toArray, List.getElem?_cons_succ, List.getElem?_cons_zero]; rfl)) (fun K hK => ?_) AllReadyH.nil
              go_simp
              refine hK.out _ _ (by (try dsimp only); exact HST.out _) (fun hHeld2 => ?_)
              clear hK K
              try simp only [Act.put, List.setIfInBounds_toArray, List.set_cons_zero, List.set_cons_succ]
              refine wpAnyH_done (by kernel_rfl) ?_ _
              go_wp2_with fail
              subst hwd
              obtain ⟨sn2, r1, r2, r3, r4, r5, r6⟩ := HR.out
              refine ⟨⟨_, _, _, _, _, _, _, _, _, _, _, _, _, _, _, _, _, _, _, _, _, _, _, _, _, _, _, _, _, _, _, _, _, _, _, _, _, _, ⟨j + 1, sn2, by omega, by go_num, r1, r2, r3, r4, r5, r6⟩, rfl⟩, ?_⟩
              simp [intOf]; omega
            | false =>
              rw [htp] at v2
              by_cases hin : -x ∈ c.take (j + 1)
              · have hzt : (z == (i : Int) + 1) = true := by rw [HIN.out.2 hin]; simp
                have hze : z = (i : Int) + 1 := HIN.out.2 hin
                have HR := Lib.hid (HFIN.out true (by rw [HTP.out, htp]; simp [hin]))
                clear HFIN htp hin
                clear hTL hTV hTW
                refine wp_region_held_drew (S := (fun w' => w'.cell? ⟨M.K, 2, none⟩ = some (.slice (some ⟨gg, 0, none⟩) S.L.length gcap) ∧ w'.cell? ⟨X, a2, none⟩ = some (.int .i64 z))) (by kernel_rfl) (by (try dsimp only); exact ⟨hq2, hxz⟩) (fun hHeld => ?_)
                refine wpAnyH_take (i := 0) (v := ?_) (by (simp only [List.getElem?_toArray, List.getElem?_cons_succ, List.getElem?_cons_zero]; rfl)) (by kernel_rfl) (by kernel_rfl) (by kernel_rfl) (by intro _ _ _ h; exact h) (Or.inl ⟨by rfl, ?_⟩) (by assumption) ?_
                rotate_left
                · (intro w hSw; (try dsimp only at hSw); obtain ⟨q0, q1⟩ := hSw; go_simp; try (with_reducible rfl))
                simp only [Act.put, List.setIfInBounds_toArray, List.set_cons_zero, List.set_cons_succ]
                refine wpAnyH_take (i := 1) (v := ?_) (by (simp only [List.getElem?_toArray, List.getElem?_cons_succ, List.getElem?_cons_zero]; rfl)) (by kernel_rfl) (by kernel_rfl) (by kernel_rfl) (by intro _ _ _ h; exact h) (Or.inl ⟨by rfl, ?_⟩) (by assumption) ?_
                rotate_left
                · (intro w hSw; (try dsimp only at hSw); obtain ⟨q0, q1⟩ := hSw; go_simp; try (with_reducible rfl))
                simp only [Act.put, List.setIfInBounds_toArray, List.set_cons_zero, List.set_cons_succ]
                refine wpAnyH_take (i := 2) (v := ?_) (by (simp only [List.getElem?_toArray, List.getElem?_cons_succ, List.getElem?_cons_zero]; rfl)) (by kernel_rfl) (by kernel_rfl) (by kernel_rfl) (by intro _ _ _ h; exact h) (Or.inl ⟨by rfl, ?_⟩) (by assumption) ?_
                rotate_left
                · (intro w hSw; (try dsimp only at hSw); obtain ⟨q0, q1⟩ := hSw; go_simp; try (with_reducible rfl))
                simp only [Act.put, List.setIfInBounds_toArray, List.set_cons_zero, List.set_cons_succ]
                refine wpAnyH_take (i := 3) (v := ?_) (by (simp only [List.getElem?_toArray, List.getElem?_cons_succ, List.getElem?_cons_zero]; rfl)) (by kernel_rfl) (by kernel_rfl) (by kernel_rfl) (by intro _ _ _ h; exact h) (Or.inl ⟨by rfl, ?_⟩) (by assumption) ?_
                rotate_left
                · (intro w hSw; (try dsimp only at hSw); obtain ⟨q0, q1⟩ := hSw; go_simp; try (with_reducible rfl))
                simp only [Act.put, List.setIfInBounds_toArray, List.set_cons_zero, List.set_cons_succ]
                refine wpAnyH_take (i := 4) (v := ?_) (by (simp only [List.getElem?_toArray, List.getElem?_cons_succ, List.getElem?_cons_zero]; rfl)) (by kernel_rfl) (by kernel_rfl) (by kernel_rfl) (by intro _ _ _ h; exact h) (Or.inl ⟨by rfl, ?_⟩) (by assumption) ?_
                rotate_left
                · (intro w hSw; (try dsimp only at hSw); obtain ⟨q0, q1⟩ := hSw; go_simp; try (with_reducible rfl))
                simp only [Act.put, List.setIfInBounds_toArray, List.set_cons_zero, List.set_cons_succ]
                refine wpAnyH_take (i := 5) (v := ?_) (by (simp only [List.getElem?_toArray, List.getElem?_cons_succ, List.getElem?_cons_zero]; rfl)) (by kernel_rfl) (by kernel_rfl) (by kernel_rfl) (by intro _ _ _ h; exact h) (Or.inl ⟨by rfl, ?_⟩) (by assumption) ?_
                rotate_left
                · (intro w hSw; (try dsimp only at hSw); obtain ⟨q0, q1⟩ := hSw; go_simp; try (with_reducible rfl))
                simp only [Act.put, List.setIfInBounds_toArray, List.set_cons_zero, List.set_cons_succ]
                refine wpAnyH_take (i := 6) (v := ?_) (by (simp only [List.getElem?_toArray, List.getElem?_cons_succ, List.getElem?_cons_zero]; rfl)) (by kernel_rfl) (by kernel_rfl) (by kernel_rfl) (by intro _ _ _ h; exact h) (Or.inl ⟨by rfl, ?_⟩) (by assumption) ?_
                rotate_left
                · (intro w hSw; (try dsimp only at hSw); obtain ⟨q0, q1⟩ := hSw; go_simp; try (with_reducible rfl))
                simp only [Act.put, List.setIfInBounds_toArray, List.set_cons_zero, List.set_cons_succ]
                refine wpAnyH_take (i := 7) (v := ?_) (by (simp only [List.getElem?_toArray, List.getElem?_cons_succ, List.getElem?_cons_zero]; rfl)) (by kernel_rfl) (by kernel_rfl) (by kernel_rfl) (by intro _ _ _ h; exact h) (Or.inl ⟨by rfl, ?_⟩) (by assumption) ?_
                rotate_left
                · (intro w hSw; (try dsimp only at hSw); obtain ⟨q0, q1⟩ := hSw; go_simp; try (with_reducible rfl))
                simp only [Act.put, List.setIfInBounds_toArray, List.set_cons_zero, List.set_cons_succ]
                refine wpAnyH_take (i := 8) (v := ?_) (by (simp only [List.getElem?_toArray, List.getElem?_cons_succ, List.getElem?_cons_zero]; rfl)) (by kernel_rfl) (by kernel_rfl) (by kernel_rfl) (by intro _ _ _ h; exact h) (Or.inl ⟨by rfl, ?_⟩) (by assumption) ?_
                rotate_left
                · (intro w hSw; (try dsimp only at hSw); obtain ⟨q0, q1⟩ := hSw; go_simp; try (with_reducible rfl))
                simp only [Act.put, List.setIfInBounds_toArray, List.set_cons_zero, List.set_cons_succ]
                refine wpAnyH_take (i := 9) (v := ?_) (by (simp only [List.getElem?_toArray, List.getElem?_cons_succ, List.getElem?_cons_zero]; rfl)) (by kernel_rfl) (by kernel_rfl) (by kernel_rfl) (by intro _ _ _ h; exact h) (Or.inl ⟨by rfl, ?_⟩) (by assumption) ?_
                rotate_left
                · (intro w hSw; (try dsimp only at hSw); obtain ⟨q0, q1⟩ := hSw; go_simp; try (with_reducible rfl))
                simp only [Act.put, List.setIfInBounds_toArray, List.set_cons_zero, List.set_cons_succ]
                refine wpAnyH_take (i := 10) (v := ?_) (by (simp only [List.getElem?_toArray, List.getElem?_cons_succ, List.getElem?_cons_zero]; rfl)) (by kernel_rfl) (by kernel_rfl) (by kernel_rfl) (by intro _ _ _ h; exact h) (Or.inl ⟨by rfl, ?_⟩) (by assumption) ?_
                rotate_left
                · (intro w hSw; (try dsimp only at hSw); obtain ⟨q0, q1⟩ := hSw; go_simp; try (with_reducible rfl))
                simp only [Act.put, List.setIfInBounds_toArray, List.set_cons_zero, List.set_cons_succ]
                refine wpAnyH_ready (rs := [11]) (by kernel_rfl) (by simp) ?_
                refine AllReadyH.cons (by (simp only [List.getElem?_toArray, List.getElem?_cons_succ, List.getElem?_cons_zero]; rfl)) (fun K hK => ?_) AllReadyH.nil
                go_simp
                skip
                refine hK.out _ _ (by (try dsimp only); exact ⟨hq2, hxz⟩) (fun hHeld => ?_)
                clear hK K
                try simp only [Act.put, List.setIfInBounds_toArray, List.set_cons_zero, List.set_cons_succ]
                refine wpAnyH_take (i := 12) (v := ?_) (by (simp only [List.getElem?_toArray, List.getElem?_cons_succ, List.getElem?_cons_zero]; rfl)) (by kernel_rfl) (by kernel_rfl) (by kernel_rfl) (by intro _ _ _ h; exact h) (Or.inl ⟨by rfl, ?_⟩) (by assumption) ?_
                rotate_left
                · (intro w hSw; (try dsimp only at hSw); obtain ⟨q0, q1⟩ := hSw; go_simp; try (with_reducible rfl))
                simp only [Act.put, List.setIfInBounds_toArray, List.set_cons_zero, List.set_cons_succ]
                refine wpAnyH_take (i := 13) (v := ?_) (by (simp only [List.getElem?_toArray, List.getElem?_cons_succ, List.getElem?_cons_zero]; rfl)) (by kernel_rfl) (by kernel_rfl) (by kernel_rfl) (by intro _ _ _ h; exact h) (Or.inl ⟨by rfl, ?_⟩) (by assumption) ?_
                rotate_left
                · (intro w hSw; (try dsimp only at hSw); obtain ⟨q0, q1⟩ := hSw; go_simp; try (with_reducible rfl))
                simp only [Act.put, List.setIfInBounds_toArray, List.set_cons_zero, List.set_cons_succ]
                refine wpAnyH_take (i := 14) (v := ?_) (by (simp only [List.getElem?_toArray, List.getElem?_cons_succ, List.getElem?_cons_zero]; rfl)) (by kernel_rfl) (by kernel_rfl) (by kernel_rfl) (by intro _ _ _ h; exact h) (Or.inl ⟨by rfl, ?_⟩) (by assumption) ?_
                rotate_left
                · (intro w hSw; (try dsimp only at hSw); obtain ⟨q0, q1⟩ := hSw; go_simp; try (with_reducible rfl))
                simp only [Act.put, List.setIfInBounds_toArray, List.set_cons_zero, List.set_cons_succ]
                refine wpAnyH_take (i := 15) (v := ?_) (by (simp only [List.getElem?_toArray, List.getElem?_cons_succ, List.getElem?_cons_zero]; rfl)) (by kernel_rfl) (by kernel_rfl) (by kernel_rfl) (by intro _ _ _ h; exact h) (Or.inl ⟨by rfl, ?_⟩) (by assumption) ?_
                rotate_left
                · (intro w hSw; (try dsimp only at hSw); obtain ⟨q0, q1⟩ := hSw; go_simp; try (with_reducible rfl))
                simp only [Act.put, List.setIfInBounds_toArray, List.set_cons_zero, List.set_cons_succ]
                refine wpAnyH_take (i := 16) (v := ?_) (by (simp only [List.getElem?_toArray, List.getElem?_cons_succ, List.getElem?_cons_zero]; rfl)) (by kernel_rfl) (by kernel_rfl) (by kernel_rfl) (by intro _ _ _ h; exact h) (Or.inl ⟨by rfl, ?_⟩) (by assumption) ?_
                rotate_left
                · (intro w hSw; (try dsimp only at hSw); obtain ⟨q0, q1⟩ := hSw; go_simp; try (with_reducible rfl))
                simp only [Act.put, List.setIfInBounds_toArray, List.set_cons_zero, List.set_cons_succ]
                refine wpAnyH_take (i := 20) (v := ?_) (by (simp only [List.getElem?_toArray, List.getElem?_cons_succ, List.getElem?_cons_zero]; rfl)) (by kernel_rfl) (by kernel_rfl) (by kernel_rfl) (by intro _ _ _ h; exact h) (Or.inl ⟨by rfl, ?_⟩) (by assumption) ?_
                rotate_left
                · (intro w hSw; (try dsimp only at hSw); obtain ⟨q0, q1⟩ := hSw; go_simp; try (with_reducible rfl))
                simp only [Act.put, List.setIfInBounds_toArray, List.set_cons_zero, List.set_cons_succ]
                refine wpAnyH_take (i := 21) (v := ?_) (by (simp only [List.getElem?_toArray, List.getElem?_cons_succ, List.getElem?_cons_zero]; rfl)) (by kernel_rfl) (by kernel_rfl) (by kernel_rfl) (by intro _ _ _ h; exact h) (Or.inl ⟨by rfl, ?_⟩) (by assumption) ?_
                rotate_left
                · (intro w hSw; (try dsimp only at hSw); obtain ⟨q0, q1⟩ := hSw; go_simp; try (with_reducible rfl))
                simp only [Act.put, List.setIfInBounds_toArray, List.set_cons_zero, List.set_cons_succ]
                refine wpAnyH_ready (rs := [17]) (by kernel_rfl) (by simp) ?_
                refine AllReadyH.cons (by (simp only [List.getElem?_toArray, List.getElem?_cons_succ, List.getElem?_cons_zero]; rfl)) (fun K hK => ?_) AllReadyH.nil
                go_simp
                refine HA2.out.mono ?_
                rintro e w1 ⟨rfl, hw⟩
                obtain rfl : W2.drew = w1 := hw.symm
                refine hK.out _ _ (by (try dsimp only); exact ⟨hq2, hxz⟩) (fun hHeld => ?_)
                clear hK K
                try simp only [Act.put, List.setIfInBounds_toArray, List.set_cons_zero, List.set_cons_succ]
                refine wpAnyH_take (i := 18) (v := ?_) (by (simp only [List.getElem?_toArray, List.getElem?_cons_succ, List.getElem?_cons_zero]; rfl)) (by kernel_rfl) (by kernel_rfl) (by kernel_rfl) (by intro _ _ _ h; exact h) (Or.inl ⟨by rfl, ?_⟩) (by assumption) ?_
                rotate_left
                · (intro w hSw; (try dsimp only at hSw); obtain ⟨q0, q1⟩ := hSw; go_simp; try (with_reducible rfl))
                simp only [Act.put, List.setIfInBounds_toArray, List.set_cons_zero, List.set_cons_succ]
                refine wpAnyH_take (i := 19) (v := ?_) (by (simp only [List.getElem?_toArray, List.getElem?_cons_succ, List.getElem?_cons_zero]; rfl)) (by kernel_rfl) (by kernel_rfl) (by kernel_rfl) (by intro _ _ _ h; exact h) (Or.inl ⟨by rfl, ?_⟩) (by assumption) ?_
                rotate_left
                · (intro w hSw; (try dsimp only at hSw); obtain ⟨q0, q1⟩ := hSw; go_simp; try (with_reducible rfl))
                simp only [Act.put, List.setIfInBounds_toArray, List.set_cons_zero, List.set_cons_succ]
                refine wpAnyH_take (i := 22) (v := ?_) (by (simp only [List.getElem?_toArray, List.getElem?_cons_succ, List.getElem?_cons_zero]; rfl)) (by kernel_rfl) (by kernel_rfl) (by kernel_rfl) (by intro _ _ _ h; exact h) (Or.inl ⟨by rfl, ?_⟩) (by assumption) ?_
                rotate_left
                · (intro w hSw; (try dsimp only at hSw); obtain ⟨q0, q1⟩ := hSw; go_simp; try (with_reducible rfl))
                simp only [Act.put, List.setIfInBounds_toArray, List.set_cons_zero, List.set_cons_succ]
                refine wpAnyH_take (i := 23) (v := ?_) (by (simp only [List.getElem?_toArray, List.getElem?_cons_succ, List.getElem?_cons_zero]; rfl)) (by kernel_rfl) (by kernel_rfl) (by kernel_rfl) (by intro _ _ _ h; exact h) (Or.inl ⟨by rfl, ?_⟩) (by assumption) ?_
                rotate_left
                · (intro w hSw; (try dsimp only at hSw); obtain ⟨q0, q1⟩ := hSw; go_simp; try (with_reducible rfl))
                simp only [Act.put, List.setIfInBounds_toArray, List.set_cons_zero, List.set_cons_succ]
                refine wpAnyH_take (i := 24) (v := ?_) (by (simp only [List.getElem?_toArray, List.getElem?_cons_succ, List.getElem?_cons_zero]; rfl)) (by kernel_rfl) (by kernel_rfl) (by kernel_rfl) (by intro _ _ _ h; exact h) (Or.inl ⟨by rfl, ?_⟩) (by assumption) ?_
                rotate_left
                · (intro w hSw; (try dsimp only at hSw); obtain ⟨q0, q1⟩ := hSw; go_simp; try (with_reducible rfl))
                simp only [Act.put, List.setIfInBounds_toArray, List.set_cons_zero, List.set_cons_succ]
                refine wpAnyH_ready (rs := [25]) (by kernel_rfl) (by simp) ?_
                refine AllReadyH.cons (by (simp only [List.getElem?_toArray, List.getElem?_cons_succ, List.getElem?_cons_zero]; rfl)) (fun K hK => ?_) AllReadyH.nil
                go_simp
                refine hK.out _ _ (by (try dsimp only); exact HST.out _) (fun hHeld2 => ?_)
                clear hK K
                try simp only [Act.put, List.setIfInBounds_toArray, List.set_cons_zero, List.set_cons_succ]
                refine wpAnyH_done (by kernel_rfl) ?_ _
                go_wp2_with fail
                subst hwd
                obtain ⟨sn2, r1, r2, r3, r4, r5, r6⟩ := HR.out
                have r7 : X < W2.heap.size := by simpa using r6
                go_round
                case rel => exact ⟨j + 1, by omega, by go_num, r1, sn2, r2, r3, r4, r5, r7⟩
                case measure => simp [intOf]; omega
              · have hzt : (z == (i : Int) + 1) = false := by simp; exact fun e => hin (HIN.out.1 e)
                have hze : ¬ z = (i : Int) + 1 := fun e => hin (HIN.out.1 e)
                have HR := Lib.hid (HFIN.out false (by rw [HTP.out, htp]; simp [hin]))
                clear HFIN htp hin
                clear hTL hTV hTW
                refine wp_region_held_drew (S := (fun w' => w'.cell? ⟨M.K, 2, none⟩ = some (.slice (some ⟨gg, 0, none⟩) S.L.length gcap) ∧ w'.cell? ⟨X, a2, none⟩ = some (.int .i64 z))) (by kernel_rfl) (by (try dsimp only); exact ⟨hq2, hxz⟩) (fun hHeld => ?_)
                refine wpAnyH_take (i := 0) (v := ?_) (by (simp only [List.getElem?_toArray, List.getElem?_cons_succ, List.getElem?_cons_zero]; rfl)) (by kernel_rfl) (by kernel_rfl) (by kernel_rfl) (by intro _ _ _ h; exact h) (Or.inl ⟨by rfl, ?_⟩) (by assumption) ?_
                rotate_left
                · (intro w hSw; (try dsimp only at hSw); obtain ⟨q0, q1⟩ := hSw; go_simp; try (with_reducible rfl))
                simp only [Act.put, List.setIfInBounds_toArray, List.set_cons_zero, List.set_cons_succ]
                refine wpAnyH_take (i := 1) (v := ?_) (by (simp only [List.getElem?_toArray, List.getElem?_cons_succ, List.getElem?_cons_zero]; rfl)) (by kernel_rfl) (by kernel_rfl) (by kernel_rfl) (by intro _ _ _ h; exact h) (Or.inl ⟨by rfl, ?_⟩) (by assumption) ?_
                rotate_left
                · (intro w hSw; (try dsimp only at hSw); obtain ⟨q0, q1⟩ := hSw; go_simp; try (with_reducible rfl))
                simp only [Act.put, List.setIfInBounds_toArray, List.set_cons_zero, List.set_cons_succ]
                refine wpAnyH_take (i := 2) (v := ?_) (by (simp only [List.getElem?_toArray, List.getElem?_cons_succ, List.getElem?_cons_zero]; rfl)) (by kernel_rfl) (by kernel_rfl) (by kernel_rfl) (by intro _ _ _ h; exact h) (Or.inl ⟨by rfl, ?_⟩) (by assumption) ?_
                rotate_left
                · (intro w hSw; (try dsimp only at hSw); obtain ⟨q0, q1⟩ := hSw; go_simp; try (with_reducible rfl))
                simp only [Act.put, List.setIfInBounds_toArray, List.set_cons_zero, List.set_cons_succ]
                refine wpAnyH_take (i := 3) (v := ?_) (by (simp only [List.getElem?_toArray, List.getElem?_cons_succ, List.getElem?_cons_zero]; rfl)) (by kernel_rfl) (by kernel_rfl) (by kernel_rfl) (by intro _ _ _ h; exact h) (Or.inl ⟨by rfl, ?_⟩) (by assumption) ?_
                rotate_left
                · (intro w hSw; (try dsimp only at hSw); obtain ⟨q0, q1⟩ := hSw; go_simp; try (with_reducible rfl))
                simp only [Act.put, List.setIfInBounds_toArray, List.set_cons_zero, List.set_cons_succ]
                refine wpAnyH_take (i := 4) (v := ?_) (by (simp only [List.getElem?_toArray, List.getElem?_cons_succ, List.getElem?_cons_zero]; rfl)) (by kernel_rfl) (by kernel_rfl) (by kernel_rfl) (by intro _ _ _ h; exact h) (Or.inl ⟨by rfl, ?_⟩) (by assumption) ?_
                rotate_left
                · (intro w hSw; (try dsimp only at hSw); obtain ⟨q0, q1⟩ := hSw; go_simp; try (with_reducible rfl))
                simp only [Act.put, List.setIfInBounds_toArray, List.set_cons_zero, List.set_cons_succ]
                refine wpAnyH_take (i := 5) (v := ?_) (by (simp only [List.getElem?_toArray, List.getElem?_cons_succ, List.getElem?_cons_zero]; rfl)) (by kernel_rfl) (by kernel_rfl) (by kernel_rfl) (by intro _ _ _ h; exact h) (Or.inl ⟨by rfl, ?_⟩) (by assumption) ?_
                rotate_left
                · (intro w hSw; (try dsimp only at hSw); obtain ⟨q0, q1⟩ := hSw; go_simp; try (with_reducible rfl))
                simp only [Act.put, List.setIfInBounds_toArray, List.set_cons_zero, List.set_cons_succ]
                refine wpAnyH_take (i := 6) (v := ?_) (by (simp only [List.getElem?_toArray, List.getElem?_cons_succ, List.getElem?_cons_zero]; rfl)) (by kernel_rfl) (by kernel_rfl) (by kernel_rfl) (by intro _ _ _ h; exact h) (Or.inl ⟨by rfl, ?_⟩) (by assumption) ?_
                rotate_left
                · (intro w hSw; (try dsimp only at hSw); obtain ⟨q0, q1⟩ := hSw; go_simp; try (with_reducible rfl))
                simp only [Act.put, List.setIfInBounds_toArray, List.set_cons_zero, List.set_cons_succ]
                refine wpAnyH_take (i := 7) (v := ?_) (by (simp only [List.getElem?_toArray, List.getElem?_cons_succ, List.getElem?_cons_zero]; rfl)) (by kernel_rfl) (by kernel_rfl) (by kernel_rfl) (by intro _ _ _ h; exact h) (Or.inl ⟨by rfl, ?_⟩) (by assumption) ?_
                rotate_left
                · (intro w hSw; (try dsimp only at hSw); obtain ⟨q0, q1⟩ := hSw; go_simp; try (with_reducible rfl))
                simp only [Act.put, List.setIfInBounds_toArray, List.set_cons_zero, List.set_cons_succ]
                refine wpAnyH_take (i := 8) (v := ?_) (by (simp only [List.getElem?_toArray, List.getElem?_cons_succ, List.getElem?_cons_zero]; rfl)) (by kernel_rfl) (by kernel_rfl) (by kernel_rfl) (by intro _ _ _ h; exact h) (Or.inl ⟨by rfl, ?_⟩) (by assumption) ?_
                rotate_left
                · (intro w hSw; (try dsimp only at hSw); obtain ⟨q0, q1⟩ := hSw; go_simp; try (with_reducible rfl))
                simp only [Act.put, List.setIfInBounds_toArray, List.set_cons_zero, List.set_cons_succ]
                refine wpAnyH_take (i := 9) (v := ?_) (by (simp only [List.getElem?_toArray, List.getElem?_cons_succ, List.getElem?_cons_zero]; rfl)) (by kernel_rfl) (by kernel_rfl) (by kernel_rfl) (by intro _ _ _ h; exact h) (Or.inl ⟨by rfl, ?_⟩) (by assumption) ?_
                rotate_left
                · (intro w hSw; (try dsimp only at hSw); obtain ⟨q0, q1⟩ := hSw; go_simp; try (with_reducible rfl))
                simp only [Act.put, List.setIfInBounds_toArray, List.set_cons_zero, List.set_cons_succ]
                refine wpAnyH_take (i := 10) (v := ?_) (by (simp only [List.getElem?_toArray, List.getElem?_cons_succ, List.getElem?_cons_zero]; rfl)) (by kernel_rfl) (by kernel_rfl) (by kernel_rfl) (by intro _ _ _ h; exact h) (Or.inl ⟨by rfl, ?_⟩) (by assumption) ?_
                rotate_left
                · (intro w hSw; (try dsimp only at hSw); obtain ⟨q0, q1⟩ := hSw; go_simp; try (with_reducible rfl))
                simp only [Act.put, List.setIfInBounds_toArray, List.set_cons_zero, List.set_cons_succ]
                refine wpAnyH_ready (rs := [11]) (by kernel_rfl) (by simp) ?_
                refine AllReadyH.cons (by (simp only [List.getElem?_toArray, List.getElem?_cons_succ, List.getElem?_cons_zero]; rfl)) (fun K hK => ?_) AllReadyH.nil
                go_simp
                skip
                refine hK.out _ _ (by (try dsimp only); exact ⟨hq2, hxz⟩) (fun hHeld => ?_)
                clear hK K
                try simp only [Act.put, List.setIfInBounds_toArray, List.set_cons_zero, List.set_cons_succ]
                refine wpAnyH_take (i := 12) (v := ?_) (by (simp only [List.getElem?_toArray, List.getElem?_cons_succ, List.getElem?_cons_zero]; rfl)) (by kernel_rfl) (by kernel_rfl) (by kernel_rfl) (by intro _ _ _ h; exact h) (Or.inl ⟨by rfl, ?_⟩) (by assumption) ?_
                rotate_left
                · (intro w hSw; (try dsimp only at hSw); obtain ⟨q0, q1⟩ := hSw; go_simp; try (with_reducible rfl))
                simp only [Act.put, List.setIfInBounds_toArray, List.set_cons_zero, List.set_cons_succ]
                refine wpAnyH_take (i := 13) (v := ?_) (by (simp only [List.getElem?_toArray, List.getElem?_cons_succ, List.getElem?_cons_zero]; rfl)) (by kernel_rfl) (by kernel_rfl) (by kernel_rfl) (by intro _ _ _ h; exact h) (Or.inl ⟨by rfl, ?_⟩) (by assumption) ?_
                rotate_left
                · (intro w hSw; (try dsimp only at hSw); obtain ⟨q0, q1⟩ := hSw; go_simp; try (with_reducible rfl))
                simp only [Act.put, List.setIfInBounds_toArray, List.set_cons_zero, List.set_cons_succ]
                refine wpAnyH_take (i := 14) (v := ?_) (by (simp only [List.getElem?_toArray, List.getElem?_cons_succ, List.getElem?_cons_zero]; rfl)) (by kernel_rfl) (by kernel_rfl) (by kernel_rfl) (by intro _ _ _ h; exact h) (Or.inl ⟨by rfl, ?_⟩) (by assumption) ?_
                rotate_left
                · (intro w hSw; (try dsimp only at hSw); obtain ⟨q0, q1⟩ := hSw; go_simp; try (with_reducible rfl))
                simp only [Act.put, List.setIfInBounds_toArray, List.set_cons_zero, List.set_cons_succ]
                refine wpAnyH_take (i := 15) (v := ?_) (by (simp only [List.getElem?_toArray, List.getElem?_cons_succ, List.getElem?_cons_zero]; rfl)) (by kernel_rfl) (by kernel_rfl) (by kernel_rfl) (by intro _ _ _ h; exact h) (Or.inl ⟨by rfl, ?_⟩) (by assumption) ?_
                rotate_left
                · (intro w hSw; (try dsimp only at hSw); obtain ⟨q0, q1⟩ := hSw; go_simp; try (with_reducible rfl))
                simp only [Act.put, List.setIfInBounds_toArray, List.set_cons_zero, List.set_cons_succ]
                refine wpAnyH_take (i := 16) (v := ?_) (by (simp only [List.getElem?_toArray, List.getElem?_cons_succ, List.getElem?_cons_zero]; rfl)) (by kernel_rfl) (by kernel_rfl) (by kernel_rfl) (by intro _ _ _ h; exact h) (Or.inl ⟨by rfl, ?_⟩) (by assumption) ?_
                rotate_left
                · (intro w hSw; (try dsimp only at hSw); obtain ⟨q0, q1⟩ := hSw; go_simp; try (with_reducible rfl))
                simp only [Act.put, List.setIfInBounds_toArray, List.set_cons_zero, List.set_cons_succ]
                refine wpAnyH_take (i := 20) (v := ?_) (by (simp only [List.getElem?_toArray, List.getElem?_cons_succ, List.getElem?_cons_zero]; rfl)) (by kernel_rfl) (by kernel_rfl) (by kernel_rfl) (by intro _ _ _ h; exact h) (Or.inl ⟨by rfl, ?_⟩) (by assumption) ?_
                rotate_left
                · (intro w hSw; (try dsimp only at hSw); obtain ⟨q0, q1⟩ := hSw; go_simp; try (with_reducible rfl))
                simp only [Act.put, List.setIfInBounds_toArray, List.set_cons_zero, List.set_cons_succ]
                refine wpAnyH_take (i := 21) (v := ?_) (by (simp only [List.getElem?_toArray, List.getElem?_cons_succ, List.getElem?_cons_zero]; rfl)) (by kernel_rfl) (by kernel_rfl) (by kernel_rfl) (by intro _ _ _ h; exact h) (Or.inl ⟨by rfl, ?_⟩) (by assumption) ?_
                rotate_left
                · (intro w hSw; (try dsimp only at hSw); obtain ⟨q0, q1⟩ := hSw; go_simp; try (with_reducible rfl))
                simp only [Act.put, List.setIfInBounds_toArray, List.set_cons_zero, List.set_cons_succ]
                refine wpAnyH_ready (rs := [17]) (by kernel_rfl) (by simp) ?_
                refine AllReadyH.cons (by (simp only [List.getElem?_toArray, List.getElem?_cons_succ, List.getElem?_cons_zero]; rfl)) (fun K hK => ?_) AllReadyH.nil
                go_simp
                refine HA2.out.mono ?_
                rintro e w1 ⟨rfl, hw⟩
                obtain rfl : W2.drew = w1 := hw.symm
                refine hK.out _ _ (by (try dsimp only); exact ⟨hq2, hxz⟩) (fun hHeld => ?_)
                clear hK K
                try simp only [Act.put, List.setIfInBounds_toArray, List.set_cons_zero, List.set_cons_succ]
                refine wpAnyH_take (i := 18) (v := ?_) (by (simp only [List.getElem?_toArray, List.getElem?_cons_succ, List.getElem?_cons_zero]; rfl)) (by kernel_rfl) (by kernel_rfl) (by kernel_rfl) (by intro _ _ _ h; exact h) (Or.inl ⟨by rfl, ?_⟩) (by assumption) ?_
                rotate_left
                · (intro w hSw; (try dsimp only at hSw); obtain ⟨q0, q1⟩ := hSw; go_simp; try (with_reducible rfl))
                simp only [Act.put, List.setIfInBounds_toArray, List.set_cons_zero, List.set_cons_succ]
                refine wpAnyH_take (i := 19) (v := ?_) (by (simp only [List.getElem?_toArray, List.getElem?_cons_succ, List.getElem?_cons_zero]; rfl)) (by kernel_rfl) (by kernel_rfl) (by kernel_rfl) (by intro _ _ _ h; exact h) (Or.inl ⟨by rfl, ?_⟩) (by assumption) ?_
                rotate_left
                · (intro w hSw; (try dsimp only at hSw); obtain ⟨q0, q1⟩ := hSw; go_simp; try (with_reducible rfl))
                simp only [Act.put, List.setIfInBounds_toArray, List.set_cons_zero, List.set_cons_succ]
                refine wpAnyH_take (i := 22) (v := ?_) (by (simp only [List.getElem?_toArray, List.getElem?_cons_succ, List.getElem?_cons_zero]; rfl)) (by kernel_rfl) (by kernel_rfl) (by kernel_rfl) (by intro _ _ _ h; exact h) (Or.inl ⟨by rfl, ?_⟩) (by assumption) ?_
                rotate_left
                · (intro w hSw; (try dsimp only at hSw); obtain ⟨q0, q1⟩ := hSw; go_simp; try (with_reducible rfl))
                simp only [Act.put, List.setIfInBounds_toArray, List.set_cons_zero, List.set_cons_succ]
                refine wpAnyH_take (i := 23) (v := ?_) (by (simp only [List.getElem?_toArray, List.getElem?_cons_succ, List.getElem?_cons_zero]; rfl)) (by kernel_rfl) (by kernel_rfl) (by kernel_rfl) (by intro _ _ _ h; exact h) (Or.inl ⟨by rfl, ?_⟩) (by assumption) ?_
                rotate_left
                · (intro w hSw; (try dsimp only at hSw); obtain ⟨q0, q1⟩ := hSw; go_simp; try (with_reducible rfl))
                simp only [Act.put, List.setIfInBounds_toArray, List.set_cons_zero, List.set_cons_succ]
                refine wpAnyH_take (i := 24) (v := ?_) (by (simp only [List.getElem?_toArray, List.getElem?_cons_succ, List.getElem?_cons_zero]; rfl)) (by kernel_rfl) (by kernel_rfl) (by kernel_rfl) (by intro _ _ _ h; exact h) (Or.inl ⟨by rfl, ?_⟩) (by assumption) ?_
                rotate_left
                · (intro w hSw; (try dsimp only at hSw); obtain ⟨q0, q1⟩ := hSw; go_simp; try (with_reducible rfl))
                simp only [Act.put, List.setIfInBounds_toArray, List.set_cons_zero, List.set_cons_succ]
                refine wpAnyH_ready (rs := [25]) (by kernel_rfl) (by simp) ?_
                refine AllReadyH.cons (by (simp only [List.getElem?_toArray, List.getElem?_cons_succ, List.getElem?_cons_zero]; rfl)) (fun K hK => ?_) AllReadyH.nil
                go_simp
                refine hK.out _ _ (by (try dsimp only); exact HST.out _) (fun hHeld2 => ?_)
                clear hK K
                try simp only [Act.put, List.setIfInBounds_toArray, List.set_cons_zero, List.set_cons_succ]
                refine wpAnyH_done (by kernel_rfl) ?_ _
                go_wp2_with fail
                subst hwd
                obtain ⟨sn2, r1, r2, r3, r4, r5, r6⟩ := HR.out
                have r7 : X < W2.heap.size := by simpa using r6
                go_round
                case rel => exact ⟨j + 1, by omega, by go_num, r1, sn2, r2, r3, r4, r5, r7⟩
                case measure => simp [intOf]; omega
          · have hjI : (c.length : Int) ≤ (j : Int) := by omega
            have htk : tpM c j = taut c := by unfold tpM; rw [List.take_of_length_le (by omega)]
            rw [htk] at hkk HKK2
            obtain ⟨gg, gcap, v1, v2, v3, v4⟩ := hkk.goneAt (hno _) (i := i) (b := taut c) (by show (T.G.set i (taut c))[i]? = _; rw [List.getElem?_set_self (by rw [HTG2.out]; exact hlt)])
            have hlen : (({ T with G := T.G.set i (taut c) } : Ws).G).length = S.L.length := by show (T.G.set i (taut c)).length = _; rw [List.length_set]; exact HTG2.out
            have hq2 : wr.cell? ⟨M.K, 2, none⟩ = some (M3.hd .gon) := by rw [← hMK3]; exact hkk.cGon (hno _)
            rw [v1, hlen] at hq2
            have HBI := Lib.hid (show bothTo S (i + 1) = if taut c then { T with G := T.G.set i true } else c.foldl (addS i) T from by
              rw [bothTo_succ, ← HTE.out]
              unfold bothI
              have : T.L.getD i [] = c := by rw [HT.out]; simp [List.getD, HC.out]
              rw [this])
            have HSL3 := Lib.hid (show ∀ a, sn' a ≤ ((i + 1 : Nat) : Int) from fun a => by have := hsl a; omega)
            clear hkk hsn hse hsl hff hxs' HSE HSL v1 hlen htk
            cases htc : taut c with
            | true =>
              rw [htc] at v2 HKK2
              have HKN := Lib.hid (show KW wr n0 M3 (bothTo S (i + 1)) noW from by rw [HBI.out, htc]; exact HKK2.out)
              have HFT := Lib.hid (show ((S.L.take (i + 1)).any taut) = true from by rw [HFD.out, htc]; simp)
              clear hTL hTV hTW htc
              go_wp2_with fail
              go_round
              case rel => exact ⟨i + 1, M3, sn', by omega, by go_num, by rw [HFT.out], HKN.out, HFF2.out, HTG.out, HLL.out, HSN2.out, HSL3.out, HXS2.out⟩
              case measure => simp [intOf]; omega
            | false =>
              rw [htc] at v2 HKK2
              have HKT := Lib.hid (show KW wr n0 M3 T noW from by
                have h1 := HKK2.out
                rw [HG0S.out] at h1
                exact h1)
              have HFT := Lib.hid (show ((S.L.take (i + 1)).any taut) = fd from by rw [HFD.out, htc]; simp)
              have HBE := Lib.hid (show bothTo S (i + 1) = c.foldl (addS i) T from by rw [HBI.out, htc]; simp)
              have HN6 := Lib.hid (show sizeC (S.L.take i) + c.length ≤ 1000000 from by have h1 := sizeC_take HC.out; have h2 := sizeC_take_le S.L (i + 1); have h3 := HS.out.size; omega)
              clear htc HKK2
              go_wp2_with fail
              go_loopw [10, 83] (fun z q wr' => ∃ j : Nat, ∃ M4 : Wm, j ≤ c.length ∧ q = .int .i64 j ∧ KW wr' n0 M4 ((c.take j).foldl (addS i) T) noW ∧ FrW M M4 btT w wr' ∧ M4.tag X = .free ∧ M4.hd .lst = M.hd .lst ∧ M4.hd (.cl i) = M3.hd (.cl i) ∧ Seen wr' n0 X (wide S) sn' ∧ X < wr'.heap.size) (fun _ q _ => c.length - (intOf q).toNat)
              case atStart => exact ⟨0, M3, by omega, rfl, HKT.out, HFF2.out, HTG.out, HLL.out, rfl, HSN2.out, HXS2.out⟩
              case round =>
                obtain ⟨j, M4, hj, rfl, hkk, hff, htg, hll, hlc, hsn, hxs'⟩ := hrel
                have hMK4 : M4.K = M.K := hff.K
                have HKK4 := Lib.hid hkk
                have HFF4 := Lib.hid hff
                have HTG4 := Lib.hid htg
                have HLL4 := Lib.hid hll
                have HLC4 := Lib.hid hlc
                have HSN4 := Lib.hid hsn
                have HXS4 := Lib.hid hxs'
                by_cases hlt3 : j < c.length
                · obtain ⟨x, hx⟩ : ∃ x, c[j]? = some x := ⟨_, List.getElem?_eq_getElem hlt3⟩
                  obtain ⟨U, hU⟩ : ∃ U, U = (c.take j).foldl (addS i) T := ⟨_, rfl⟩
                  have HU := Lib.hid hU
                  have HUS := Lib.hid (show U = { T with st := U.st, cn := U.cn } from by rw [hU]; exact adds_same i T _)
                  have HUC := Lib.hid (show CntLen U (sizeC (S.L.take i) + j) from by
                    rw [hU]
                    have h1 := HCL.out.adds i (c.take j)
                    rw [List.length_take, Nat.min_eq_left (by omega)] at h1
                    exact h1)
                  rw [← hU] at hkk HKK4
                  have hUL : U.L = S.L := by rw [HUS.out]; exact hTL
                  have hUV : U.vars = S.vars := by rw [HUS.out]; exact hTV
                  have hUW : wide U = wide S := by unfold wide; rw [hUV]
                  obtain ⟨b1, rfl, hxc⟩ : ∃ b1, ca = some b1 ∧ wr.cell? (b1.add j) = some (iV x) := by
                    obtain ⟨_, _, _, _, _, _, hrd, _⟩ := hkk.clause (hno _) (hno _) (i := i) (c := c) (by rw [hUL]; exact HC.out)
                    rw [hlc, HES.out] at hrd
                    exact reads_elem hrd hx
                  have hxc2 : wr.cell? (b1.add j) = some (.int .i64 x) := hxc
                  clear hxc
                  have hx2 := HLT.out x (List.mem_of_getElem? hx)
                  obtain ⟨a, ha⟩ : ∃ a : Nat, x + (S.vars : Int) = (a : Int) := ⟨(x + (S.vars : Int)).toNat, by omega⟩
                  have hpa : posN S.vars x = a := by unfold posN; rw [ha]; simp
                  have haw : a < wide S := by unfold wide; omega
                  obtain ⟨Wd, hWd⟩ : ∃ Wd, Wd = wr.drew := ⟨_, rfl⟩
                  have hkd : KW Wd n0 M4 U noW := by rw [hWd]; exact hkk.drew
                  have HFWD := Lib.hid (show FrW M M4 btT w Wd from by rw [hWd]; exact hff.drew)
                  have HSWD := Lib.hid (show Seen Wd n0 X (wide S) sn' from by rw [hWd]; exact hsn.kept (row := none) ⟨rfl, rfl, rfl, Nat.le_refl _, fun _ _ _ => rfl⟩ (by simp))
                  have HXWD := Lib.hid (show X < Wd.heap.size from by rw [hWd]; exact hxs')
                  obtain ⟨gs, cs, s1, s2, s3, s4, s5, sa, scp, ss⟩ := hkd.stand (hno _) (hno _) (a := a) (by rw [hUW]; exact haw)
                  rw [hUW] at s1
                  have hd7 : Wd.cell? ⟨M.K, 7, none⟩ = some (M4.hd .std) := by rw [← hMK4]; exact hkd.cStd (hno _)
                  have hd7a : ∀ o, (Wd.alloc o).cell? ⟨M.K, 7, none⟩ = some (M4.hd .std) := fun o => by rw [← hMK4]; exact (hkd.alloc o).cStd (hno _)
                  rw [s1] at hd7
                  have hd7b : ∀ o, (Wd.alloc o).cell? ⟨M.K, 7, none⟩ = some (.slice (some ⟨gs, 0, none⟩) (wide S) cs) := fun o => by rw [← s1]; exact hd7a o
                  clear hd7a
                  have s2b : ∀ o, (Wd.alloc o).cell? ⟨gs, a, none⟩ = some (M4.hd (.st a)) := fun o => by
                    obtain ⟨gs', cs', t1, t2, _⟩ := (hkd.alloc o).stand (hno _) (hno _) (a := a) (by rw [hUW]; exact haw)
                    rw [hUW, s1] at t1
                    cases t1
                    exact t2
                  have hso := (hkd.row (.st a) rfl (hno _)).own (.inl rfl)
                  have hsl2 : ctW U M4.hd (.st a) = (U.st a).map nV := rfl
                  rw [hsl2, List.length_map] at hso
                  have hso : Wd.ownsRow n0 3 1 (M4.hd (.st a)) (U.st a).length ((U.st a).map nV) := hso
                  have hsl6 : (U.st a).length ≤ 1000000 := by have h1 := (HUC.out a).2; have h2 := HN6.out; omega
                  have hb0 : n0 ≤ Wd.heap.size := hkd.base
                  have HKD := Lib.hid hkd
                  have HSTD := Lib.hid s1
                  have HA1 := Lib.hid (at29_any hkd (hno _) x a (by show x + (U.vars : Int) = _; rw [hUV]; exact ha) (by omega))
                  have HA1b := Lib.hid (fun o => at29_any (hkd.alloc o) (hno _) x a (by show x + (U.vars : Int) = _; rw [hUV]; exact ha) (by omega))
                  rw [hMK4] at HA1 HA1b
                  have haI : (a : Int) < ((wide S : Nat) : Int) := by omega
                  have hwI : ((wide S : Nat) : Int) ≤ 1000000 := by omega
                  have hjI3 : (j : Int) < (c.length : Int) := by omega
                  have HAW := Lib.hid haw
                  have HPA := Lib.hid hpa
                  have HX2 := Lib.hid hx
                  have HUV := Lib.hid hUV
                  have HUW := Lib.hid hUW
                  have HAX := Lib.hid ha
                  have HE7 := Lib.hid (show (ctW U M4.hd .std).length = wide S from by
                    show ((List.range (wide U)).map fun b => M4.hd (.st b)).length = _
                    rw [List.length_map, List.length_range]; exact hUW)
                  clear hkk hff htg hll hlc hsn hxs' hkd hU hUL hUV hTL hTV hTW hUW hpa haw hx ha s1 s3 s4 s5 ss hsl2
                  go_upto_region 20 with fail
                  go_cut [] from 84 to 118 (fun wx => ∃ M5 : Wm, KW wx n0 M5 { U with st := fun b => if b = a then U.st a ++ [i] else U.st b } noW ∧ FrW M M5 btT w wx ∧ M5.tag X = .free ∧ M5.hd .lst = M.hd .lst ∧ M5.hd (.cl i) = M3.hd (.cl i) ∧ Seen wx n0 X (wide S) sn' ∧ X < wx.heap.size)
                  case first =>
                    refine wp_region_held_drew (S := (fun w' => w'.cell? ⟨M.K, 7, none⟩ = some (.slice (some ⟨gs, 0, none⟩) (wide S) cs))) (by kernel_rfl) (by (try dsimp only); rw [← hWd]; exact hd7) (fun hHeld => ?_)
                    rw [← hWd] at hHeld ⊢
                    clear hWd
                    refine wpAnyH_take (i := 0) (v := ?_) (by (simp only [List.getElem?_toArray, List.getElem?_cons_succ, List.getElem?_cons_zero]; rfl)) (by kernel_rfl) (by kernel_rfl) (by kernel_rfl) (by intro _ _ _ h; exact h) (Or.inl ⟨by rfl, ?_⟩) (by assumption) ?_
                    rotate_left
                    · (intro w hSw; (try dsimp only at hSw); go_simp; try (with_reducible rfl))
                    simp only [Act.put, List.setIfInBounds_toArray, List.set_cons_zero, List.set_cons_succ]
                    refine wpAnyH_take (i := 1) (v := ?_) (by (simp only [List.getElem?_toArray, List.getElem?_cons_succ, List.getElem?_cons_zero]; rfl)) (by kernel_rfl) (by kernel_rfl) (by kernel_rfl) (by intro _ _ _ h; exact h) (Or.inl ⟨by rfl, ?_⟩) (by assumption) ?_
                    rotate_left
                    · (intro w hSw; (try dsimp only at hSw); go_simp; try (with_reducible rfl))
                    simp only [Act.put, List.setIfInBounds_toArray, List.set_cons_zero, List.set_cons_succ]
                    refine wpAnyH_take (i := 2) (v := ?_) (by (simp only [List.getElem?_toArray, List.getElem?_cons_succ, List.getElem?_cons_zero]; rfl)) (by kernel_rfl) (by kernel_rfl) (by kernel_rfl) (by intro _ _ _ h; exact h) (Or.inl ⟨by rfl, ?_⟩) (by assumption) ?_
                    rotate_left
                    · (intro w hSw; (try dsimp only at hSw); go_simp; try (with_reducible rfl))
                    simp only [Act.put, List.setIfInBounds_toArray, List.set_cons_zero, List.set_cons_succ]
                    refine wpAnyH_take (i := 3) (v := ?_) (by (simp only [List.getElem?_toArray, List.getElem?_cons_succ, List.getElem?_cons_zero]; rfl)) (by kernel_rfl) (by kernel_rfl) (by kernel_rfl) (by intro _ _ _ h; exact h) (Or.inl ⟨by rfl, ?_⟩) (by assumption) ?_
                    rotate_left
                    · (intro w hSw; (try dsimp only at hSw); go_simp; try (with_reducible rfl))
                    simp only [Act.put, List.setIfInBounds_toArray, List.set_cons_zero, List.set_cons_succ]
                    refine wpAnyH_take (i := 4) (v := ?_) (by (simp only [List.getElem?_toArray, List.getElem?_cons_succ, List.getElem?_cons_zero]; rfl)) (by kernel_rfl) (by kernel_rfl) (by kernel_rfl) (by intro _ _ _ h; exact h) (Or.inl ⟨by rfl, ?_⟩) (by assumption) ?_
                    rotate_left
                    · (intro w hSw; (try dsimp only at hSw); go_simp; try (with_reducible rfl))
                    simp only [Act.put, List.setIfInBounds_toArray, List.set_cons_zero, List.set_cons_succ]
                    refine wpAnyH_take (i := 5) (v := ?_) (by (simp only [List.getElem?_toArray, List.getElem?_cons_succ, List.getElem?_cons_zero]; rfl)) (by kernel_rfl) (by kernel_rfl) (by kernel_rfl) (by intro _ _ _ h; exact h) (Or.inl ⟨by rfl, ?_⟩) (by assumption) ?_
                    rotate_left
                    · (intro w hSw; (try dsimp only at hSw); go_simp; try (with_reducible rfl))
                    simp only [Act.put, List.setIfInBounds_toArray, List.set_cons_zero, List.set_cons_succ]
                    refine wpAnyH_take (i := 7) (v := ?_) (by (simp only [List.getElem?_toArray, List.getElem?_cons_succ, List.getElem?_cons_zero]; rfl)) (by kernel_rfl) (by kernel_rfl) (by kernel_rfl) (by intro _ _ _ h; exact h) (Or.inl ⟨by rfl, ?_⟩) (by assumption) ?_
                    rotate_left
                    · (intro w hSw; (try dsimp only at hSw); go_simp; try (with_reducible rfl))
                    simp only [Act.put, List.setIfInBounds_toArray, List.set_cons_zero, List.set_cons_succ]
                    refine wpAnyH_take (i := 8) (v := ?_) (by (simp only [List.getElem?_toArray, List.getElem?_cons_succ, List.getElem?_cons_zero]; rfl)) (by kernel_rfl) (by kernel_rfl) (by kernel_rfl) (by intro _ _ _ h; exact h) (Or.inl ⟨by rfl, ?_⟩) (by assumption) ?_
                    rotate_left
                    · (intro w hSw; (try dsimp only at hSw); go_simp; try (with_reducible rfl))
                    simp only [Act.put, List.setIfInBounds_toArray, List.set_cons_zero, List.set_cons_succ]
                    refine wpAnyH_take (i := 9) (v := ?_) (by (simp only [List.getElem?_toArray, List.getElem?_cons_succ, List.getElem?_cons_zero]; rfl)) (by kernel_rfl) (by kernel_rfl) (by kernel_rfl) (by intro _ _ _ h; exact h) (Or.inl ⟨by rfl, ?_⟩) (by assumption) ?_
                    rotate_left
                    · (intro w hSw; (try dsimp only at hSw); go_simp; try (with_reducible rfl))
                    simp only [Act.put, List.setIfInBounds_toArray, List.set_cons_zero, List.set_cons_succ]
                    refine wpAnyH_take (i := 10) (v := ?_) (by (simp only [List.getElem?_toArray, List.getElem?_cons_succ, List.getElem?_cons_zero]; rfl)) (by kernel_rfl) (by kernel_rfl) (by kernel_rfl) (by intro _ _ _ h; exact h) (Or.inl ⟨by rfl, ?_⟩) (by assumption) ?_
                    rotate_left
                    · (intro w hSw; (try dsimp only at hSw); go_simp; try (with_reducible rfl))
                    simp only [Act.put, List.setIfInBounds_toArray, List.set_cons_zero, List.set_cons_succ]
                    refine wpAnyH_take (i := 11) (v := ?_) (by (simp only [List.getElem?_toArray, List.getElem?_cons_succ, List.getElem?_cons_zero]; rfl)) (by kernel_rfl) (by kernel_rfl) (by kernel_rfl) (by intro _ _ _ h; exact h) (Or.inl ⟨by rfl, ?_⟩) (by assumption) ?_
                    rotate_left
                    · (intro w hSw; (try dsimp only at hSw); go_simp; try (with_reducible rfl))
                    simp only [Act.put, List.setIfInBounds_toArray, List.set_cons_zero, List.set_cons_succ]
                    refine wpAnyH_take (i := 12) (v := ?_) (by (simp only [List.getElem?_toArray, List.getElem?_cons_succ, List.getElem?_cons_zero]; rfl)) (by kernel_rfl) (by kernel_rfl) (by kernel_rfl) (by intro _ _ _ h; exact h) (Or.inl ⟨by rfl, ?_⟩) (by assumption) ?_
                    rotate_left
                    · (intro w hSw; (try dsimp only at hSw); go_simp; try (with_reducible rfl))
                    simp only [Act.put, List.setIfInBounds_toArray, List.set_cons_zero, List.set_cons_succ]
                    refine wpAnyH_take (i := 16) (v := ?_) (by (simp only [List.getElem?_toArray, List.getElem?_cons_succ, List.getElem?_cons_zero]; rfl)) (by kernel_rfl) (by kernel_rfl) (by kernel_rfl) (by intro _ _ _ h; exact h) (Or.inl ⟨by rfl, ?_⟩) (by assumption) ?_
                    rotate_left
                    · (intro w hSw; (try dsimp only at hSw); go_simp; try (with_reducible rfl))
                    simp only [Act.put, List.setIfInBounds_toArray, List.set_cons_zero, List.set_cons_succ]
                    refine wpAnyH_ready (rs := [6, 17]) (by kernel_rfl) (by simp) ?_
                    refine AllReadyH.cons (by (simp only [List.getElem?_toArray, List.getElem?_cons_succ, List.getElem?_cons_zero]; rfl)) (fun K hK => ?_) (AllReadyH.cons (by (simp only [List.getElem?_toArray, List.getElem?_cons_succ, List.getElem?_cons_zero]; rfl)) (fun K hK => ?_) AllReadyH.nil)
                    · go_simp
                      with_reducible refine HA1.out.mono ?_
                      rintro e w5 ⟨rfl, hw⟩
                      obtain rfl : Wd = w5 := hw.symm
                      refine hK.out _ _ (by (try dsimp only); exact hd7) (fun hHeld => ?_)
                      clear hK K
                      try simp only [Act.put, List.setIfInBounds_toArray, List.set_cons_zero, List.set_cons_succ]
                      refine wpAnyH_ready (rs := [13, 17]) (by kernel_rfl) (by simp) ?_
                      refine AllReadyH.cons (by (simp only [List.getElem?_toArray, List.getElem?_cons_succ, List.getElem?_cons_zero]; rfl)) (fun K hK => ?_) (AllReadyH.cons (by (simp only [List.getElem?_toArray, List.getElem?_cons_succ, List.getElem?_cons_zero]; rfl)) (fun K hK => ?_) AllReadyH.nil)
                      · go_simp
                        with_reducible refine HA1.out.mono ?_
                        rintro e w5 ⟨rfl, hw⟩
                        obtain rfl : Wd = w5 := hw.symm
                        refine hK.out _ _ (by (try dsimp only); exact hd7) (fun hHeld => ?_)
                        clear hK K
                        try simp only [Act.put, List.setIfInBounds_toArray, List.set_cons_zero, List.set_cons_succ]
                        refine wpAnyH_take (i := 14) (v := ?_) (by (simp only [List.getElem?_toArray, List.getElem?_cons_succ, List.getElem?_cons_zero]; rfl)) (by kernel_rfl) (by kernel_rfl) (by kernel_rfl) (by intro _ _ _ h; exact h) (Or.inl ⟨by rfl, ?_⟩) (by assumption) ?_
                        rotate_left
                        · (intro w hSw; (try dsimp only at hSw); go_simp; try (with_reducible rfl))
                        simp only [Act.put, List.setIfInBounds_toArray, List.set_cons_zero, List.set_cons_succ]
                        refine wpAnyH_ready (rs := [15, 17]) (by kernel_rfl) (by simp) ?_
                        refine AllReadyH.cons (by (simp only [List.getElem?_toArray, List.getElem?_cons_succ, List.getElem?_cons_zero]; rfl)) (fun K hK => ?_) (AllReadyH.cons (by (simp only [List.getElem?_toArray, List.getElem?_cons_succ, List.getElem?_cons_zero]; rfl)) (fun K hK => ?_) AllReadyH.nil)
                        · go_simp
                          refine hK.out _ _ (by (try dsimp only); exact hd7) (fun hHeld => ?_)
                          clear hK K
                          try simp only [Act.put, List.setIfInBounds_toArray, List.set_cons_zero, List.set_cons_succ]
                          refine wpAnyH_ready (rs := [17]) (by kernel_rfl) (by simp) ?_
                          refine AllReadyH.cons (by (simp only [List.getElem?_toArray, List.getElem?_cons_succ, List.getElem?_cons_zero]; rfl)) (fun K hK => ?_) AllReadyH.nil
                          go_simp
                          refine hK.out _ _ (by (try dsimp only); exact hd7b _) (fun hHeld => ?_)
                          clear hK K
                          try simp only [Act.put, List.setIfInBounds_toArray, List.set_cons_zero, List.set_cons_succ]
                          refine wpAnyH_ready (rs := [18]) (by kernel_rfl) (by simp) ?_
                          refine AllReadyH.cons (by (simp only [List.getElem?_toArray, List.getElem?_cons_succ, List.getElem?_cons_zero]; rfl)) (fun K hK => ?_) AllReadyH.nil
                          refine step_appS rfl (.tmp 102) (.tmp 104) rfl Wd i rfl rfl hso hsl6 hb0 ?_
                          intro g6 q6 w6 ho6 hg6 hat6
                          have hfin := st_fin HKD.out HUW.out HAW.out HSTD.out HTG4.out HXWD.out HSWD.out HFWD.out ho6 hg6 hat6
                          rw [hMK4] at hfin
                          obtain ⟨u7, t2, t3, u8, hfin2⟩ := hfin
                          have HFIN := Lib.hid hfin2
                          clear ho6 hg6 hat6 hfin2
                          refine hK.out _ _ (by (try dsimp only); exact u7) (fun hHeld => ?_)
                          clear hK K
                          try simp only [Act.put, List.setIfInBounds_toArray, List.set_cons_zero, List.set_cons_succ]
                          refine wpAnyH_take (i := 19) (v := ?_) (by (simp only [List.getElem?_toArray, List.getElem?_cons_succ, List.getElem?_cons_zero]; rfl)) (by kernel_rfl) (by kernel_rfl) (by kernel_rfl) (by intro _ _ _ h; exact h) (Or.inl ⟨by rfl, ?_⟩) (by assumption) ?_
                          rotate_left
                          · (intro w hSw; (try dsimp only at hSw); go_simp; try (with_reducible rfl))
                          simp only [Act.put, List.setIfInBounds_toArray, List.set_cons_zero, List.set_cons_succ]
                          refine wpAnyH_ready (rs := [20]) (by kernel_rfl) (by simp) ?_
                          refine AllReadyH.cons (by (simp only [List.getElem?_toArray, List.getElem?_cons_succ, List.getElem?_cons_zero]; rfl)) (fun K hK => ?_) AllReadyH.nil
                          go_simp
                          refine hK.out _ _ (by (try dsimp only); exact u8) (fun hHeld2 => ?_)
                          clear hK K
                          try simp only [Act.put, List.setIfInBounds_toArray, List.set_cons_zero, List.set_cons_succ]
                          refine wpAnyH_done (by kernel_rfl) ?_ _
                          go_wp2_with fail
                          go_meet
                          (obtain ⟨M5, z1, z2, z3, z4, z5, z6, z7⟩ := HFIN.out; exact ⟨M5, z1, z2, z3, z4.trans HLL4.out, (z5 i).trans HLC4.out, z6, z7⟩)
                        · go_simp
                          refine hK.out _ _ (by (try dsimp only); exact hd7b _) (fun hHeld => ?_)
                          clear hK K
                          try simp only [Act.put, List.setIfInBounds_toArray, List.set_cons_zero, List.set_cons_succ]
                          refine wpAnyH_ready (rs := [15]) (by kernel_rfl) (by simp) ?_
                          refine AllReadyH.cons (by (simp only [List.getElem?_toArray, List.getElem?_cons_succ, List.getElem?_cons_zero]; rfl)) (fun K hK => ?_) AllReadyH.nil
                          go_simp
                          refine hK.out _ _ (by (try dsimp only); exact hd7b _) (fun hHeld => ?_)
                          clear hK K
                          try simp only [Act.put, List.setIfInBounds_toArray, List.set_cons_zero, List.set_cons_succ]
                          refine wpAnyH_ready (rs := [18]) (by kernel_rfl) (by simp) ?_
                          refine AllReadyH.cons (by (simp only [List.getElem?_toArray, List.getElem?_cons_succ, List.getElem?_cons_zero]; rfl)) (fun K hK => ?_) AllReadyH.nil
                          refine step_appS rfl (.tmp 102) (.tmp 104) rfl Wd i rfl rfl hso hsl6 hb0 ?_
                          intro g6 q6 w6 ho6 hg6 hat6
                          have hfin := st_fin HKD.out HUW.out HAW.out HSTD.out HTG4.out HXWD.out HSWD.out HFWD.out ho6 hg6 hat6
                          rw [hMK4] at hfin
                          obtain ⟨u7, t2, t3, u8, hfin2⟩ := hfin
                          have HFIN := Lib.hid hfin2
                          clear ho6 hg6 hat6 hfin2
                          refine hK.out _ _ (by (try dsimp only); exact u7) (fun hHeld => ?_)
                          clear hK K
                          try simp only [Act.put, List.setIfInBounds_toArray, List.set_cons_zero, List.set_cons_succ]
                          refine wpAnyH_take (i := 19) (v := ?_) (by (simp only [List.getElem?_toArray, List.getElem?_cons_succ, List.getElem?_cons_zero]; rfl)) (by kernel_rfl) (by kernel_rfl) (by kernel_rfl) (by intro _ _ _ h; exact h) (Or.inl ⟨by rfl, ?_⟩) (by assumption) ?_
                          rotate_left
                          · (intro w hSw; (try dsimp only at hSw); go_simp; try (with_reducible rfl))
                          simp only [Act.put, List.setIfInBounds_toArray, List.set_cons_zero, List.set_cons_succ]
                          refine wpAnyH_ready (rs := [20]) (by kernel_rfl) (by simp) ?_
                          refine AllReadyH.cons (by (simp only [List.getElem?_toArray, List.getElem?_cons_succ, List.getElem?_cons_zero]; rfl)) (fun K hK => ?_) AllReadyH.nil
                          go_simp
                          refine hK.out _ _ (by (try dsimp only); exact u8) (fun hHeld2 => ?_)
                          clear hK K
                          try simp only [Act.put, List.setIfInBounds_toArray, List.set_cons_zero, List.set_cons_succ]
                          refine wpAnyH_done (by kernel_rfl) ?_ _
                          go_wp2_with fail
                          go_meet
                          (obtain ⟨M5, z1, z2, z3, z4, z5, z6, z7⟩ := HFIN.out; exact ⟨M5, z1, z2, z3, z4.trans HLL4.out, (z5 i).trans HLC4.out, z6, z7⟩)
                      · go_simp
                        refine hK.out _ _ (by (try dsimp only); exact hd7b _) (fun hHeld => ?_)
                        clear hK K
                        try simp only [Act.put, List.setIfInBounds_toArray, List.set_cons_zero, List.set_cons_succ]
                        refine wpAnyH_ready (rs := [13]) (by kernel_rfl) (by simp) ?_
                        refine AllReadyH.cons (by (simp only [List.getElem?_toArray, List.getElem?_cons_succ, List.getElem?_cons_zero]; rfl)) (fun K hK => ?_) AllReadyH.nil
                        go_simp
                        with_reducible refine (HA1b.out _).mono ?_
                        rintro e w5 ⟨rfl, hw⟩
                        obtain rfl : Wd.alloc (.cells #[.int .i64 (i : Int)] 3) = w5 := hw.symm
                        refine hK.out _ _ (by (try dsimp only); exact hd7b _) (fun hHeld => ?_)
                        clear hK K
                        try simp only [Act.put, List.setIfInBounds_toArray, List.set_cons_zero, List.set_cons_succ]
                        refine wpAnyH_take (i := 14) (v := ?_) (by (simp only [List.getElem?_toArray, List.getElem?_cons_succ, List.getElem?_cons_zero]; rfl)) (by kernel_rfl) (by kernel_rfl) (by kernel_rfl) (by intro _ _ _ h; exact h) (Or.inl ⟨by rfl, ?_⟩) (by assumption) ?_
                        rotate_left
                        · (intro w hSw; (try dsimp only at hSw); go_simp; try (with_reducible rfl))
                        simp only [Act.put, List.setIfInBounds_toArray, List.set_cons_zero, List.set_cons_succ]
                        refine wpAnyH_ready (rs := [15]) (by kernel_rfl) (by simp) ?_
                        refine AllReadyH.cons (by (simp only [List.getElem?_toArray, List.getElem?_cons_succ, List.getElem?_cons_zero]; rfl)) (fun K hK => ?_) AllReadyH.nil
                        go_simp
                        refine hK.out _ _ (by (try dsimp only); exact hd7b _) (fun hHeld => ?_)
                        clear hK K
                        try simp only [Act.put, List.setIfInBounds_toArray, List.set_cons_zero, List.set_cons_succ]
                        refine wpAnyH_ready (rs := [18]) (by kernel_rfl) (by simp) ?_
                        refine AllReadyH.cons (by (simp only [List.getElem?_toArray, List.getElem?_cons_succ, List.getElem?_cons_zero]; rfl)) (fun K hK => ?_) AllReadyH.nil
                        refine step_appS rfl (.tmp 102) (.tmp 104) rfl Wd i rfl rfl hso hsl6 hb0 ?_
                        intro g6 q6 w6 ho6 hg6 hat6
                        have hfin := st_fin HKD.out HUW.out HAW.out HSTD.out HTG4.out HXWD.out HSWD.out HFWD.out ho6 hg6 hat6
                        rw [hMK4] at hfin
                        obtain ⟨u7, t2, t3, u8, hfin2⟩ := hfin
                        have HFIN := Lib.hid hfin2
                        clear ho6 hg6 hat6 hfin2
                        refine hK.out _ _ (by (try dsimp only); exact u7) (fun hHeld => ?_)
                        clear hK K
                        try simp only [Act.put, List.setIfInBounds_toArray, List.set_cons_zero, List.set_cons_succ]
                        refine wpAnyH_take (i := 19) (v := ?_) (by (simp only [List.getElem?_toArray, List.getElem?_cons_succ, List.getElem?_cons_zero]; rfl)) (by kernel_rfl) (by kernel_rfl) (by kernel_rfl) (by intro _ _ _ h; exact h) (Or.inl ⟨by rfl, ?_⟩) (by assumption) ?_
                        rotate_left
                        · (intro w hSw; (try dsimp only at hSw); go_simp; try (with_reducible rfl))
                        simp only [Act.put, List.setIfInBounds_toArray, List.set_cons_zero, List.set_cons_succ]
                        refine wpAnyH_ready (rs := [20]) (by kernel_rfl) (by simp) ?_
                        refine AllReadyH.cons (by (simp only [List.getElem?_toArray, List.getElem?_cons_succ, List.getElem?_cons_zero]; rfl)) (fun K hK => ?_) AllReadyH.nil
                        go_simp
                        refine hK.out _ _ (by (try dsimp only); exact u8) (fun hHeld2 => ?_)
                        clear hK K
                        try simp only [Act.put, List.setIfInBounds_toArray, List.set_cons_zero, List.set_cons_succ]
                        refine wpAnyH_done (by kernel_rfl) ?_ _
                        go_wp2_with fail
                        go_meet
                        (obtain ⟨M5, z1, z2, z3, z4, z5, z6, z7⟩ := HFIN.out; exact ⟨M5, z1, z2, z3, z4.trans HLL4.out, (z5 i).trans HLC4.out, z6, z7⟩)
                    · go_simp
                      refine hK.out _ _ (by (try dsimp only); exact hd7b _) (fun hHeld => ?_)
                      clear hK K
                      try simp only [Act.put, List.setIfInBounds_toArray, List.set_cons_zero, List.set_cons_succ]
                      refine wpAnyH_ready (rs := [6]) (by kernel_rfl) (by simp) ?_
                      refine AllReadyH.cons (by (simp only [List.getElem?_toArray, List.getElem?_cons_succ, List.getElem?_cons_zero]; rfl)) (fun K hK => ?_) AllReadyH.nil
                      go_simp
                      with_reducible refine (HA1b.out _).mono ?_
                      rintro e w5 ⟨rfl, hw⟩
                      obtain rfl : Wd.alloc (.cells #[.int .i64 (i : Int)] 3) = w5 := hw.symm
                      refine hK.out _ _ (by (try dsimp only); exact hd7b _) (fun hHeld => ?_)
                      clear hK K
                      try simp only [Act.put, List.setIfInBounds_toArray, List.set_cons_zero, List.set_cons_succ]
                      refine wpAnyH_ready (rs := [13]) (by kernel_rfl) (by simp) ?_
                      refine AllReadyH.cons (by (simp only [List.getElem?_toArray, List.getElem?_cons_succ, List.getElem?_cons_zero]; rfl)) (fun K hK => ?_) AllReadyH.nil
                      go_simp
                      with_reducible refine (HA1b.out _).mono ?_
                      rintro e w5 ⟨rfl, hw⟩
                      obtain rfl : Wd.alloc (.cells #[.int .i64 (i : Int)] 3) = w5 := hw.symm
                      refine hK.out _ _ (by (try dsimp only); exact hd7b _) (fun hHeld => ?_)
                      clear hK K
                      try simp only [Act.put, List.setIfInBounds_toArray, List.set_cons_zero, List.set_cons_succ]
                      refine wpAnyH_take (i := 14) (v := ?_) (by (simp only [List.getElem?_toArray, List.getElem?_cons_succ, List.getElem?_cons_zero]; rfl)) (by kernel_rfl) (by kernel_rfl) (by kernel_rfl) (by intro _ _ _ h; exact h) (Or.inl ⟨by rfl, ?_⟩) (by assumption) ?_
                      rotate_left
                      · (intro w hSw; (try dsimp only at hSw); go_simp; try (with_reducible rfl))
                      simp only [Act.put, List.setIfInBounds_toArray, List.set_cons_zero, List.set_cons_succ]
                      refine wpAnyH_ready (rs := [15]) (by kernel_rfl) (by simp) ?_
                      refine AllReadyH.cons (by (simp only [List.getElem?_toArray, List.getElem?_cons_succ, List.getElem?_cons_zero]; rfl)) (fun K hK => ?_) AllReadyH.nil
                      go_simp
                      refine hK.out _ _ (by (try dsimp only); exact hd7b _) (fun hHeld => ?_)
                      clear hK K
                      try simp only [Act.put, List.setIfInBounds_toArray, List.set_cons_zero, List.set_cons_succ]
                      refine wpAnyH_ready (rs := [18]) (by kernel_rfl) (by simp) ?_
                      refine AllReadyH.cons (by (simp only [List.getElem?_toArray, List.getElem?_cons_succ, List.getElem?_cons_zero]; rfl)) (fun K hK => ?_) AllReadyH.nil
                      refine step_appS rfl (.tmp 102) (.tmp 104) rfl Wd i rfl rfl hso hsl6 hb0 ?_
                      intro g6 q6 w6 ho6 hg6 hat6
                      have hfin := st_fin HKD.out HUW.out HAW.out HSTD.out HTG4.out HXWD.out HSWD.out HFWD.out ho6 hg6 hat6
                      rw [hMK4] at hfin
                      obtain ⟨u7, t2, t3, u8, hfin2⟩ := hfin
                      have HFIN := Lib.hid hfin2
                      clear ho6 hg6 hat6 hfin2
                      refine hK.out _ _ (by (try dsimp only); exact u7) (fun hHeld => ?_)
                      clear hK K
                      try simp only [Act.put, List.setIfInBounds_toArray, List.set_cons_zero, List.set_cons_succ]
                      refine wpAnyH_take (i := 19) (v := ?_) (by (simp only [List.getElem?_toArray, List.getElem?_cons_succ, List.getElem?_cons_zero]; rfl)) (by kernel_rfl) (by kernel_rfl) (by kernel_rfl) (by intro _ _ _ h; exact h) (Or.inl ⟨by rfl, ?_⟩) (by assumption) ?_
                      rotate_left
                      · (intro w hSw; (try dsimp only at hSw); go_simp; try (with_reducible rfl))
                      simp only [Act.put, List.setIfInBounds_toArray, List.set_cons_zero, List.set_cons_succ]
                      refine wpAnyH_ready (rs := [20]) (by kernel_rfl) (by simp) ?_
                      refine AllReadyH.cons (by (simp only [List.getElem?_toArray, List.getElem?_cons_succ, List.getElem?_cons_zero]; rfl)) (fun K hK => ?_) AllReadyH.nil
                      go_simp
                      refine hK.out _ _ (by (try dsimp only); exact u8) (fun hHeld2 => ?_)
                      clear hK K
                      try simp only [Act.put, List.setIfInBounds_toArray, List.set_cons_zero, List.set_cons_succ]
                      refine wpAnyH_done (by kernel_rfl) ?_ _
                      go_wp2_with fail
                      go_meet
                      (obtain ⟨M5, z1, z2, z3, z4, z5, z6, z7⟩ := HFIN.out; exact ⟨M5, z1, z2, z3, z4.trans HLL4.out, (z5 i).trans HLC4.out, z6, z7⟩)
                  case rest =>
                    obtain ⟨M5, hk5, hf5, htg5, hll5, hlc5, hsn5, hxs5⟩ := hcut
                    have hMK5 : M5.K = M.K := hf5.K
                    have hkd5 := hk5.drew
                    have HAT := Lib.hid (at29_any hkd5 (hno _) x a (by show x + (U.vars : Int) = _; rw [HUV.out]; exact HAX.out) (by have := HAW.out; omega))
                    rw [hMK5] at HAT
                    obtain ⟨gc, cc2, k1, k2, k3, k4⟩ := hkd5.cntAt (hno _) (a := a) (by show a < wide U; rw [HUW.out]; exact HAW.out)
                    have hcc : wc.drew.cell? ⟨M.K, 8, none⟩ = some (M5.hd .cnt) := by rw [← hMK5]; exact hkd5.cCnt (hno _)
                    have k1 : M5.hd .cnt = .slice (some ⟨gc, 0, none⟩) (wide U) cc2 := k1
                    rw [k1, HUW.out] at hcc
                    obtain ⟨z, hz⟩ : ∃ z, z = U.cn a := ⟨_, rfl⟩
                    have k2' : wc.drew.cell? ⟨gc, a, none⟩ = some (.int .i64 z) := by rw [hz]; exact k2
                    have hzb : 0 ≤ z ∧ z ≤ 1000000 := by rw [hz]; have h1 := HUC.out a; have h2 := HN6.out; omega
                    have hzw : IntKind.i64.wrap (z + 1) = z + 1 := IntWalk.i64_in _ ⟨by omega, by omega⟩
                    have HKN := Lib.hid (show KW (wc.drew.setCell ⟨gc, a, none⟩ (.int .i64 (z + 1))) n0 M5 ((c.take (j + 1)).foldl (addS i) T) noW from by
                      have h1 := hkd5.count (hno _) k1 (a := a) (z := z + 1) (f := fun b => if b = a then U.cn b + 1 else U.cn b) (fun b => by
                        show (if b = a then U.cn b + 1 else U.cn b) = if b = a then z + 1 else U.cn b
                        by_cases hb : b = a
                        · subst hb; rw [if_pos rfl, if_pos rfl, hz]
                        · rw [if_neg hb, if_neg hb])
                      have e : (c.take (j + 1)).foldl (addS i) T = { U with st := fun b => if b = a then U.st a ++ [i] else U.st b, cn := fun b => if b = a then U.cn b + 1 else U.cn b } := by
                        rw [take_snoc _ j x HX2.out, List.foldl_append, ← HU.out]
                        show addS i U x = _
                        have hp : posN U.vars x = a := by rw [HUV.out]; exact HPA.out
                        unfold addS
                        rw [hp]
                        congr 1
                        funext b
                        by_cases hb : b = a
                        · subst hb; simp
                        · rw [if_neg hb, if_neg hb]
                      rw [e]
                      exact h1)
                    have HFN := Lib.hid (show FrW M M5 btT w (wc.drew.setCell ⟨gc, a, none⟩ (.int .i64 (z + 1))) from hf5.drew.trans (FrW.put (ts := btT) _ M5 _ _ (.inr (.inr (.inr (.inl k4))))))
                    have HSN := Lib.hid (show Seen (wc.drew.setCell ⟨gc, a, none⟩ (.int .i64 (z + 1))) n0 X (wide S) sn' from (show Seen wc.drew n0 X (wide S) sn' from hsn5.kept (row := none) ⟨rfl, rfl, rfl, Nat.le_refl _, fun _ _ _ => rfl⟩ (by simp)).kept (row := some gc) ⟨rfl, rfl, rfl, by simp, fun k _ hk => heap_setCell_other _ _ k _ (fun e => hk (by simp [e]))⟩ (fun e => by
                      have h2 := htg5
                      rw [← Option.some.inj e, k4] at h2
                      cases h2))
                    have HXN := Lib.hid (show X < (wc.drew.setCell ⟨gc, a, none⟩ (.int .i64 (z + 1))).heap.size from by simpa using hxs5)
                    have HTG5 := Lib.hid htg5
                    have HLL5 := Lib.hid hll5
                    have HLC5 := Lib.hid hlc5
                    clear hk5 hf5 htg5 hll5 hlc5 hsn5 hxs5 hkd5 k1 k2 hz k4
                    go_upto_region 21 with fail
                    go_region_with (go_at_call 34; with_reducible refine HAT.out.mono ?_; rintro e w' ⟨rfl, rfl⟩)
                    all_goals
                      go_wp2_with fail
                      exact ⟨⟨j + 1, M5, by omega, by go_num, HKN.out, HFN.out, HTG5.out, HLL5.out, HLC5.out, HSN.out, HXN.out⟩, by simp [intOf]; omega⟩
                · have hjI3 : (c.length : Int) ≤ (j : Int) := by omega
                  have HKN := Lib.hid (show KW wr n0 M4 (bothTo S (i + 1)) noW from by
                    rw [HBE.out]
                    have h1 := hkk
                    rw [List.take_of_length_le (by omega)] at h1
                    exact h1)
                  clear hkk hff htg hll hlc hsn hxs' hTL hTV hTW
                  go_wp2_with fail
                  go_round
                  case rel => exact ⟨i + 1, M4, sn', by omega, by go_num, by rw [HFT.out], HKN.out, HFF4.out, HTG4.out, HLL4.out, HSN4.out, HSL3.out, HXS4.out⟩
                  case measure => simp [intOf]; omega
      · have hiI : (S.L.length : Int) ≤ (i : Int) := by omega
        have hii : i = S.L.length := by omega
        subst hii
        have HN := Lib.hid (show KW wr n0 M3 (bothTo S S.L.length) noW from by rw [← HTE.out]; exact hkk)
        rw [List.take_length]
        clear hkk hff hll htg hsn hle
        go_wp2
        go_ret
        exact ⟨rfl, M3, HN.out, HFF.out⟩
end
end Go.Proofs.Ytlcbfahaapodmaa
