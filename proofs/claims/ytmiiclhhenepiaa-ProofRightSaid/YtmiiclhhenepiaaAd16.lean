/-
  Layer 16: the walk of add. Own work.
-/
import Derived.Test.YtmiiclhhenepiaaAm16
namespace Go.Proofs.Ytmiiclhhenepiaa
set_option linter.unusedVariables false
set_option linter.unusedSimpArgs false
open Go.RowKit Go.WideElems Go.MapKept

def wlT : Tg → Prop := fun t => t = .wat ∨ ∃ x, t = .row x
/-- a number more in a literal's row -/
theorem watch16 {w w5 : World} {n0 : Nat} {M : Mm} {S : St} (h : KS w n0 M S noT) (x n : Nat) (hx : x < 2 * S.vs.length) (hv : S.vs.length ≤ 100000) {g5 cap5 : Nat}
    (ho5 : w5.ownsRow n0 3 1 (.slice (some ⟨g5, 0, none⟩) ((S.wat x).length + 1) cap5) ((S.wat x).length + 1) ((S.wat x).map cv ++ [cv n])) (hg5 : w.grownBy w5 (M.rw x).ownBlock) (hat5 : (M.rw x).ownBlock = some g5 ∨ (w.heap.size ≤ g5 ∧ g5 < w5.heap.size)) :
    ∃ w6 M6, (Instr.mapUpdate 50 (.map (some M.bW)) (.int .i64 (x : Int)) (.slice (some ⟨g5, 0, none⟩) ((S.wat x).length + 1) cap5)).run Try.prog w5 = .ok () w6 ∧ w5.grownBy w6 (some M.bW) ∧
      KS w6 n0 M6 { S with wat := putW S.wat x (S.wat x ++ [n]) } noT ∧ Frm M M6 wlT w w6 := by
  have hnoT : ∀ t, ¬ noT t := fun t => id
  obtain ⟨f, hk5, hf1, hf2, hf3⟩ := h.grow (v' := .slice (some ⟨g5, 0, none⟩) ((S.wat x).length + 1) cap5) (t := .row x) (by simp) hg5 (h.tr x) (hat5.elim (fun e => .inl e.symm) (fun e => .inr ⟨g5, rfl, e⟩))
  have hor : ∀ t, t ≠ .row x → ¬ orT noT (.row x) t := fun t h0 h2 => h2.elim id h0
  obtain ⟨w6, hu, hs6, hg6⟩ := (hk5.wat (hor _ (by simp))).put (v := x) (u := .slice (some ⟨g5, 0, none⟩) ((S.wat x).length + 1) cap5) hx (by omega) (.inr ⟨_, _, _, rfl⟩)
  have hk6 := hk5.keep (ex' := orT (orT noT (.row x)) .wat) hg6 (fun t _ hx => hx.elim .inl (fun ⟨b, hb, ht⟩ => .inr (by rw [← ht, ← Option.some.inj hb]; exact hk5.tW)))
  have hk7 := hk6.fillWat (x := x) (l := S.wat x ++ [n]) (v := .slice (some ⟨g5, 0, none⟩) ((S.wat x).length + 1) cap5) hs6 (by
    rw [List.length_append, List.map_append]
    exact ho5.kept hg6 (.inr (fun e => by
      have e1 := hf1 _ rfl
      have e2 := hk5.tW
      rw [show g5 = M.bW from Option.some.inj e] at e1
      exact absurd (e1.symm.trans e2) (by simp)))) hf1
  refine ⟨w6, _, hu, hg6, hk7.less (fun t ht => ht.1.1.elim (fun h => h.elim id (fun e => absurd e ht.2)) (fun e => absurd e ht.1.2)), ?_⟩
  have e1 : Frm M { M with tag := f } wlT w w5 := ⟨hg5.os, hg5.tape, hg5.output, hg5.size, fun b hb hn => hg5.block b hb (fun e => hn (by rw [h.tr x b e.symm]; exact .inr ⟨x, rfl⟩)), hf2, rfl, rfl, rfl, rfl⟩
  exact e1.trans ⟨hg6.os, hg6.tape, hg6.output, hg6.size, fun b hb hn => hg6.block b hb (fun e => hn (by rw [Option.some.inj e]; exact .inl hk5.tW)), fun _ _ => rfl, rfl, rfl, rfl, rfl⟩
def watK (f : Nat → List Nat) (N a b : Nat) : Nat → Nat → List Nat
  | 0 => f
  | 1 => putW f a (f a ++ [N])
  | _ => watN f N a b
structure AW (n0 : Nat) (M : Mm) (S1 : St) (a b : Nat) (wc : World) (k : Nat) (wr : World) (M1 : Mm) : Prop where
  ks : KS wr n0 M1 { S1 with wat := watK S1.wat S1.list.length a b k } noT
  frm : Frm M M1 wlT wc wr
def AddP (L : List (List Nat)) (d : List Nat) (vs : List Nat) (len : Nat) (M : Mm) (n0 : Nat) (w : World) (e : Ending) (w' : World) : Prop :=
  e = .returned (.tuple #[]) ∧ ∃ M' S', KS w' n0 M' S' noT ∧ Below n0 w w' ∧ Rest (L ++ [d]) S' ∧ S'.vs = vs ∧ S'.list.length ≤ len + 1 ∧ M'.K = M.K
set_option maxRecDepth 100000 in
set_option maxHeartbeats 4000000 in
theorem add_any {L : List (List Nat)} {w : World} {n0 : Nat} {M : Mm} {S : St} (h : KS w n0 M S noT) (hr : Rest L S) (cvv : Value) (c : List Int) (hc : ∀ w', Below n0 w w' → Reads w' iV cvv c) (hf : ∀ n ∈ c, -9223372036854775808 ≤ n ∧ n ≤ 9223372036854775807)
    (hv : S.vs.length + c.length ≤ 100000) (hln : S.list.length ≤ 100000) (d : List Nat) (hd : ∀ m, m ∈ d ↔ ∃ n ∈ nz c, m = cd (vsAll S.vs c) n) :
    Calls Try.prog 24 #[.pointer (some ⟨M.K, 0, none⟩), cvv] w (AddP L d (vsAll S.vs c) S.list.length M n0 w) := by
  have hnoT : ∀ t, ¬ noT t := fun t => id
  have HL := Lib.hid (literals_any h (hnoT _) (hnoT _) cvv c hc hf hv)
  have HB := Lib.hid h
  have hvl := vsAll_len S.vs c
  have HR := Lib.hid (hr.vs (vs := vsAll S.vs c) hvl.1)
  have HD := Lib.hid hd
  have hcm := fun n hn => cd_lt (vsAll_mem c S.vs n hn)
  have HCM := Lib.hid hcm
  clear h hc hr hd hcm
  go_enter Try.func24, Try.ntmps24
  go_step3
  go_wp2_with fail
  refine HL.out.mono ?_
  rintro e w1 ⟨lits, v, rfl, hk1, hf1, hli, ho1, hb1⟩
  obtain ⟨av, cc, rfl⟩ : ∃ a c, v = .slice a lits.length c := by
    rcases ho1.2 with ⟨e, e0⟩ | ⟨g, c, cur, e, _⟩
    · exact ⟨none, 0, by rw [e, e0]⟩
    · exact ⟨_, _, e⟩
  have HDL := Lib.hid (show ∀ m, m ∈ d ↔ m ∈ lits from fun m => (HD.out m).trans (hli.mem m).symm)
  have HND := Lib.hid hli.nd
  have HLT := Lib.hid (show ∀ x ∈ lits, x < 2 * (vsAll S.vs c).length from fun x hx => by
    obtain ⟨n, hn, rfl⟩ := (hli.mem x).1 hx
    exact HCM.out n hn)
  have hll : lits.length ≤ 100000 := by have := hli.len; omega
  have HB0 := Lib.hid (hf1.below (by simp [numT]) HB.out)
  have hK1 := hf1.K
  have HV1 := Lib.hid (show ∀ b, (Value.slice av lits.length cc).ownBlock = some b → M.tag b = .free from fun b hb => HB.out.fresh b (hb1 b hb))
  have hvs1 : (vsAll S.vs c).length ≤ 100000 := by omega
  obtain ⟨S1, hS1⟩ : ∃ S1 : St, S1 = { S with vs := vsAll S.vs c } := ⟨_, rfl⟩
  have hv1 : S1.vs = vsAll S.vs c := by rw [hS1]
  have hl1 : S1.list.length = S.list.length := by rw [hS1]
  rw [← hS1] at hk1 HR
  have HK1 := Lib.hid hk1
  have HO1 := Lib.hid ho1
  clear hS1 hk1 ho1 hli hf1 hb1 HL HD HCM hvl HB
  have HF := Lib.hid (show w1.grownBy w1 (Value.slice av lits.length cc).ownBlock from World.grownBy.refl _ _)
  go_wp2_with fail
  go_step3
  go_step
  go_step
  go_step
  go_cut [5] from 10 (fun fr wx => ∃ f ls, fr = .int .i64 ((f : Nat) : Int) ∧ SrD (fun x => S1.tk (ng x)) lits ls f ∧ wx.ownsRow n0 3 1 (.slice av lits.length cc) lits.length (ls.map cv) ∧ w1.grownBy wx (Value.slice av lits.length cc).ownBlock)
  case first =>
    go_wp2_with fail
    go_loopw [5, 15] (fun fr iv wr => ∃ f pre post, iv = .int .i64 ((pre.length : Nat) : Int) ∧ fr = .int .i64 ((f : Nat) : Int) ∧ SrI (fun x => S1.tk (ng x)) lits pre post f ∧ wr.ownsRow n0 3 1 (.slice av lits.length cc) lits.length ((pre ++ post).map cv) ∧ w1.grownBy wr (Value.slice av lits.length cc).ownBlock) (fun _ iv _ => lits.length - (intOf iv).toNat)
    case atStart => exact ⟨0, [], lits, rfl, rfl, ⟨by simp, .inl ⟨rfl, by simp⟩⟩, HO1.out, HF.out⟩
    case round =>
      obtain ⟨f, pre, post, rfl, rfl, hsr, ho, hg⟩ := hrel
      have hpl := hsr.1.length_eq
      have HS := Lib.hid hsr
      have HO := Lib.hid ho
      have HG := Lib.hid hg
      have HKr := Lib.hid (HK1.out.keep (ex' := noT) hg (fun t ht hx => hx.elim id (fun ⟨b, hb, e⟩ => absurd (by rw [← e]; exact HV1.out b hb) ht)))
      rw [List.length_append] at hpl
      clear hsr hg
      cases post with
      | nil =>
        have hle : (lits.length : Int) ≤ (pre.length : Int) := by simp at hpl; omega
        have HD := Lib.hid (HS.out.done)
        have HO2 := Lib.hid (show wr.ownsRow n0 3 1 (.slice av lits.length cc) lits.length (pre.map cv) from by have := HO.out; rw [List.append_nil] at this; exact this)
        clear ho
        go_wp2_with fail
        go_meet
        exact ⟨f, pre, rfl, HD.out, HO2.out, HG.out⟩
      | cons x post =>
        simp only [List.length_cons] at hpl
        have hlt : (pre.length : Int) < (lits.length : Int) := by omega
        obtain ⟨gl, cl, hvv, hc1, hc2⟩ := own_form ho (by omega)
        cases hvv
        have hcx : wr.cell? ⟨gl, pre.length, none⟩ = some (.int .i64 (x : Int)) := own_cell16 ho (map_get (by simp))
        have hxl := HLT.out x (HS.out.1.mem_iff.1 (by simp))
        have hxor := xor16 (x := x) (by omega)
        have hng := ng_lt hxl
        have HT := Lib.hid (isTaken_any HKr.out (hnoT _) (hnoT _) (ng x) (by omega))
        clear ho
        go_wp2_with fail
        refine HT.out.mono ?_
        rintro e w2 ⟨rfl, hg2⟩
        have HO2 := Lib.hid (HO.out.kept hg2 (.inr (by simp [Value.ownBlock])))
        have HG2 := Lib.hid (HG.out.trans (show wr.grownBy w2 (Value.slice (some ⟨gl, 0, none⟩) lits.length cc).ownBlock from ⟨hg2.os, hg2.tape, hg2.output, hg2.size, fun k hk _ => hg2.block k hk (by simp)⟩))
        clear hcx hg2 HT
        cases htk : S1.tk (ng x) with
        | true =>
          have HS2 := Lib.hid (HS.out.skip htk)
          have HO3 := Lib.hid (show w2.ownsRow n0 3 1 (.slice (some ⟨gl, 0, none⟩) lits.length cc) lits.length ((pre ++ [x] ++ post).map cv) from by have := HO2.out; simpa using this)
          clear htk
          go_wp2_with fail
          exact ⟨⟨f, pre ++ [x], post, by simp, rfl, HS2.out, HO3.out, HG2.out⟩, by simp [intOf]; omega⟩
        | false =>
          obtain ⟨y, ls, hy, hls, hres⟩ := HS.out.front htk
          have hst := two_row16 HO2.out hls
          have HST := Lib.hid hst
          have hcx : w2.cell? ⟨gl, pre.length, none⟩ = some (.int .i64 (x : Int)) := own_cell16 HO2.out (map_get (by simp))
          have hcy : w2.cell? ⟨gl, f, none⟩ = some (.int .i64 (y : Int)) := own_cell16 HO2.out (map_get hy)
          have hfx : w2.frozen? ⟨gl, pre.length, none⟩ = false := HO2.out.frozenAt _
          have hfy : w2.frozen? ⟨gl, f, none⟩ = false := HO2.out.frozenAt _
          have hst1 := (HO2.out.stored f (cv x)).1
          have hcx2 : (w2.setCell ⟨gl, f, none⟩ (.int .i64 (x : Int))).cell? ⟨gl, pre.length, none⟩ = some (.int .i64 (x : Int)) := own_cell16 hst1 (by
            rw [← List.map_set]
            refine map_get ?_
            by_cases e : f = pre.length
            · rw [e, List.getElem?_set_self (by simp)]
            · rw [List.getElem?_set_ne e]; simp)
          have hfx2 : (w2.setCell ⟨gl, f, none⟩ (.int .i64 (x : Int))).frozen? ⟨gl, pre.length, none⟩ = false := hst1.frozenAt _
          have HG3 := Lib.hid (HG2.out.trans hst.2)
          clear hst1
          have hfl := (List.getElem?_eq_some_iff.1 hy).1
          simp only [List.length_append, List.length_cons] at hfl
          have hfI : (f : Int) < (lits.length : Int) := by omega
          clear hst hy hls htk
          rcases hres with ⟨rfl, pre', hp1, rfl, hs'⟩ | ⟨rfl, hs'⟩
          · have HS' := Lib.hid hs'
            clear hs'
            go_wp2_with fail
            go_region
            go_wp2_with fail
            exact ⟨⟨1, pre', post, by rw [hp1]; rfl, rfl, HS'.out, HST.out.1, HG3.out.trans ⟨rfl, rfl, rfl, Nat.le_refl _, fun _ _ _ => rfl⟩⟩, by simp [intOf]; omega⟩
          · have HS' := Lib.hid hs'
            clear hs'
            go_wp2_with fail
            go_region
            go_wp2_with fail
            go_meet
            exact ⟨2, ls, rfl, HS'.out, HST.out.1, HG3.out.trans ⟨rfl, rfl, rfl, Nat.le_refl _, fun _ _ _ => rfl⟩⟩
  case rest =>
    obtain ⟨f, ls, rfl, hsd, ho, hg⟩ := hcut
    have HKc := Lib.hid (HK1.out.keep (ex' := noT) hg (fun t ht hx => hx.elim id (fun ⟨b, hb, e⟩ => absurd (by rw [← e]; exact HV1.out b hb) ht)))
    have HBc := Lib.hid (show Below n0 w wc from by
      have hb := HB0.out
      refine ⟨hg.os.trans hb.os, hg.tape.trans hb.tape, hg.output.trans hb.output, Nat.le_trans hb.size hg.size, fun k hk => (hg.block k (Nat.lt_of_lt_of_le hk HK1.out.base) (fun e => ?_)).trans (hb.block k hk)⟩
      have := (HO1.out.lt k e.symm).1
      omega)
    have hperm := hsd.1
    have HDc := Lib.hid (show ∀ m, m ∈ d ↔ m ∈ ls from fun m => (HDL.out m).trans hperm.mem_iff.symm)
    rcases hsd.2 with ⟨rfl, hf0⟩ | ⟨rfl, a, r, rfl, ha, hr⟩ | ⟨rfl, a, b, r, rfl, ha, hb⟩
    · have hc6 : wc.cell? ⟨M.K, 6, none⟩ = some (.bool S1.broken) := HKc.out.cell (hnoT _) 6
      have hf6 : wc.frozen? ⟨M.K, 6, none⟩ = false := HKc.out.froz (hnoT _) 6
      have HF := Lib.hid (show AddP L d (vsAll S.vs c) S.list.length M n0 w (.returned (.tuple #[])) (wc.setCell ⟨M.K, 6, none⟩ (.bool true)) from
        ⟨rfl, M, _, HKc.out.brk (hnoT _) true, HBc.out.setCell (p := ⟨M.K, 6, none⟩) (HKc.out.lt (b := M.K) (by rw [HKc.out.tK]; simp)).1 _, HR.out.none HDc.out hf0, hv1, by show S1.list.length ≤ _; omega, rfl⟩)
      clear ho hg hf0 hsd hperm
      go_wp2
      go_end0
      exact HF.out
    · obtain ⟨gl, cl, hvv, hcl1, hcl2⟩ := own_form ho (by have := hperm.length_eq; simp at this; omega)
      cases hvv
      have hca : wc.cell? ⟨gl, 0, none⟩ = some (.int .i64 (a : Int)) := own_cell16 ho (map_get rfl)
      have hll0 : (0 : Int) < (lits.length : Int) := by have := hperm.length_eq; simp at this; omega
      have hal := HLT.out a (hperm.mem_iff.1 (by simp))
      have htrl := HR.out.safe.trLen
      have HTK := Lib.hid (take_any HKc.out (hnoT _) (hnoT _) (hnoT _) a (by rw [hv1]; exact hal) (by rw [hv1]; exact hvs1) (by rw [hv1] at htrl; omega))
      have HA := Lib.hid ha
      have HRR := Lib.hid hr
      clear ho hg hsd hperm ha hr
      go_wp2_with fail
      refine HTK.out.mono ?_
      rintro e w2 ⟨rfl, M2, hk2, hf2, _, _, _⟩
      obtain ⟨e1, e2, e3, e4, e5, ext, e6⟩ := take_same S1 a
      have hc6 : w2.cell? ⟨M2.K, 6, none⟩ = some (.bool (takeS S1 a).broken) := hk2.cell (hnoT _) 6
      have hf6 : w2.frozen? ⟨M2.K, 6, none⟩ = false := hk2.froz (hnoT _) 6
      rw [hf2.K] at hc6 hf6
      rw [e5] at hc6
      have HB2 := Lib.hid (HBc.out.trans (hf2.below (by simp [tkT]) HKc.out))
      have HK2 := Lib.hid hk2
      have hK2 := hf2.K
      have HS2 := Lib.hid (HR.out.safe.take (a := a) (by rw [hv1]; exact hal))
      have hln2 : (takeS S1 a).list.length = S.list.length := by rw [e2, hl1]
      clear hk2 hf2 HTK hca
      cases hbr : S1.broken with
      | true =>
        rw [hbr] at hc6
        have HF := Lib.hid (show AddP L d (vsAll S.vs c) S.list.length M n0 w (.returned (.tuple #[])) (w2.setCell ⟨M.K, 6, none⟩ (.bool true)) from
          ⟨rfl, M2, _, by rw [← hK2]; exact HK2.out.brk (hnoT _) true, HB2.out.setCell (p := ⟨M.K, 6, none⟩) (by rw [← hK2]; exact (HK2.out.lt (b := M2.K) (by rw [HK2.out.tK]; simp)).1) _,
            rest_no (S' := takeS S1 a) (by rw [e3]; exact HS2.out) (HR.out.bad hbr).left, e1.trans hv1, by show (takeS S1 a).list.length ≤ _; omega, hK2⟩)
        clear hbr e5
        go_wp2
        go_end0
        exact HF.out
      | false =>
        rw [hbr] at hc6
        obtain ⟨hlg, hwp⟩ := HR.out.one hbr HDc.out HA.out HRR.out
        have HGO := Lib.hid (goOn_any HK2.out (by rw [e3]; exact HS2.out) hlg hwp (by rw [e1, hv1]; exact hvs1) (by omega))
        rw [hK2] at HGO
        clear hlg hwp e5 hbr
        go_wp2_with fail
        refine HGO.out.mono ?_
        rintro e w3 ⟨b, M3, S3, rfl, hr3⟩
        have hc63 : w3.cell? ⟨M3.K, 6, none⟩ = some (.bool S3.broken) := hr3.ks.cell (hnoT _) 6
        have hf63 : w3.frozen? ⟨M3.K, 6, none⟩ = false := hr3.ks.froz (hnoT _) 6
        have hK3 : M3.K = M.K := hr3.frm.K.trans hK2
        rw [hK3] at hc63 hf63
        have HF := Lib.hid (show AddP L d (vsAll S.vs c) S.list.length M n0 w (.returned (.tuple #[])) (w3.setCell ⟨M.K, 6, none⟩ (.bool (!b))) from
          ⟨rfl, M3, { S3 with broken := !b }, by rw [← hK3]; exact hr3.ks.brk (hnoT _) (!b), (HB2.out.trans (hr3.frm.below (by simp [fT]) HK2.out)).setCell (p := ⟨M.K, 6, none⟩) (by rw [← hK3]; exact (hr3.ks.lt (b := M3.K) (by rw [hr3.ks.tK]; simp)).1) _, by
            cases b with
            | true =>
              obtain ⟨k1, k2⟩ := hr3.yes rfl
              obtain ⟨ext3, k3⟩ := hr3.pre
              exact rest_yes hr3.safe hr3.lg (fun x hx => by rw [k3]; exact List.mem_append_left _ hx) k1 k2
            | false => exact rest_no hr3.safe (hr3.no rfl), hr3.vs.trans (e1.trans hv1), by show S3.list.length ≤ _; rw [hr3.len, hln2]; omega, hK3⟩)
        clear hr3 HGO
        cases b
        · go_wp2
          go_end0
          exact HF.out
        · go_wp2
          go_end0
          exact HF.out
    · --TWO
      have hlen := hperm.length_eq
      simp only [List.length_cons] at hlen
      obtain ⟨gl, cl, hvv, hcl1, hcl2⟩ := own_form ho (by omega)
      cases hvv
      have HR2 := Lib.hid (HR.out.two HDc.out (hperm.nodup_iff.2 HND.out) (fun x hx => by rw [hv1]; exact HLT.out x (hperm.mem_iff.1 hx)) ha hb)
      have hal := HLT.out a (hperm.mem_iff.1 (by simp))
      have hbl := HLT.out b (hperm.mem_iff.1 (by simp))
      have HO := Lib.hid ho
      have h2c : (2 : Int) ≤ (cc : Int) := by omega
      have h2l : (2 : Int) ≤ (lits.length : Int) := by omega
      have hccI : (cc : Int) ≤ 9223372036854775807 := by unfold maxLen at hcl2; omega
      have htgl : M.tag gl = .free := HV1.out gl rfl
      have hgll := (ho.lt gl rfl).2
      have hgll0 := (ho.lt gl rfl).1
      have HL1 := Lib.hid hl1
      have hlb : S1.list.length ≤ 100000 := by omega
      have hrowl : ∀ x, (S1.wat x).length ≤ S1.list.length := HR.out.safe.rowLen
      have HW0 := Lib.hid (show AW n0 M S1 a b wc 0 wc M from ⟨HKc.out, Frm.refl _ _ _⟩)
      clear ho hg hsd hperm ha hb hl1
      go_wp2_with fail
      go_loopw [48] (fun iv wr => ∃ k M1, k ≤ 2 ∧ iv = .int .i64 ((k : Nat) : Int) ∧ AW n0 M S1 a b wc k wr M1) (fun iv _ => 2 - (intOf iv).toNat)
      case atStart => exact ⟨0, M, by omega, rfl, HW0.out⟩
      case round =>
        obtain ⟨k, M1, hk, rfl, haw⟩ := hrel
        have HA := Lib.hid haw
        have hor := haw.frm.own HO.out (fun b hb => by cases hb; rw [htgl]; simp [wlT])
        have HOr := Lib.hid hor
        have hK := haw.frm.K
        clear haw HW0
        by_cases hk2 : k < 2
        · obtain ⟨x, hx, hwx, hxl⟩ : ∃ x, (a :: b :: r)[k]? = some x ∧ watK S1.wat S1.list.length a b (k + 1) = putW (watK S1.wat S1.list.length a b k) x (watK S1.wat S1.list.length a b k x ++ [S1.list.length]) ∧ x < 2 * S1.vs.length := by
            rw [hv1]
            rcases (show k = 0 ∨ k = 1 by omega) with rfl | rfl
            · exact ⟨a, rfl, rfl, hal⟩
            · exact ⟨b, rfl, rfl, hbl⟩
          have hkI : (k : Int) < 2 := by omega
          have hcx : wr.cell? ⟨gl, k, none⟩ = some (.int .i64 (x : Int)) := own_cell16 hor (map_get hx)
          have hrl : (watK S1.wat S1.list.length a b k x).length ≤ 1000000 := by
            have h1 := hrowl x
            rcases (show k = 0 ∨ k = 1 by omega) with rfl | rfl
            · show (S1.wat x).length ≤ _; omega
            · show (putW S1.wat a (S1.wat a ++ [S1.list.length]) x).length ≤ _
              unfold putW
              split
              · have := hrowl a
                simp; omega
              · omega
          obtain ⟨al, cl3, hvl3⟩ : ∃ al cl3, M1.vl = .slice al S1.list.length cl3 := by
            rcases (HA.out.ks.lst (hnoT _)).2 with ⟨e, e0⟩ | ⟨g, c, cur, e, _⟩
            · exact ⟨none, 0, by rw [e, show S1.list.length = 0 from e0]⟩
            · exact ⟨_, _, e⟩
          have HWX := Lib.hid hwx
          have HKd := Lib.hid HA.out.ks.drew
          have HFd := Lib.hid (show Frm M M1 wlT wc wr.drew from HA.out.frm.trans (Frm.of (grown_drew _) (fun b hb => by cases hb)))
          have hq2 : wr.drew.cell? ⟨M.K, 2, none⟩ = some (.map (some M1.bW)) := by rw [← hK]; exact HKd.out.cell (hnoT _) 2
          have hq3 : wr.drew.cell? ⟨M.K, 3, none⟩ = some (.slice al S1.list.length cl3) := by rw [← hK, ← hvl3]; exact HKd.out.cell (hnoT _) 3
          have hvsb : S1.vs.length ≤ 100000 := by rw [hv1]; exact hvs1
          clear hor hx hwx
          go_upto_region 14 with fail
          refine wp_region_held_drew (S := (fun w' => w'.cell? ⟨M.K, 2, none⟩ = some (.map (some M1.bW)) ∧ w'.cell? ⟨M.K, 3, none⟩ = some (.slice al S1.list.length cl3))) (by kernel_rfl) (by (try dsimp only); exact ⟨hq2, hq3⟩) (fun hHeld => ?_)
          generalize wr.drew = wd at HKd HFd hHeld ⊢
          have HB9 := Lib.hid hHeld
          clear hq2 hq3 HA HOr hcx
          refine wpAnyH_take (i := 0) (v := ?_) (by (simp only [List.getElem?_toArray, List.getElem?_cons_succ, List.getElem?_cons_zero]; rfl)) (by kernel_rfl) (by kernel_rfl) (by kernel_rfl) (by intro _ _ _ h; exact h) (Or.inl ⟨by rfl, ?_⟩) (by assumption) ?_
          rotate_left
          · (intro w hSw; (try dsimp only at hSw); go_simp; try (with_reducible rfl))
          simp only [Act.put, List.setIfInBounds_toArray, List.set_cons_zero, List.set_cons_succ]
          refine wpAnyH_take (i := 1) (v := ?_) (by (simp only [List.getElem?_toArray, List.getElem?_cons_succ, List.getElem?_cons_zero]; rfl)) (by kernel_rfl) (by kernel_rfl) (by kernel_rfl) (by intro _ _ _ h; exact h) (Or.inl ⟨by rfl, ?_⟩) (by assumption) ?_
          rotate_left
          · (intro w hSw; (try dsimp only at hSw); go_simp; try (with_reducible rfl))
          simp only [Act.put, List.setIfInBounds_toArray, List.set_cons_zero, List.set_cons_succ]
          refine wpAnyH_take (i := 2) (v := ?_) (by (simp only [List.getElem?_toArray, List.getElem?_cons_succ, List.getElem?_cons_zero]; rfl)) (by kernel_rfl) (by kernel_rfl) (by kernel_rfl) (by intro _ _ _ h; exact h) (Or.inl ⟨by rfl, ?_⟩) (by assumption) ?_
          rotate_left
          · (intro w hSw; (try dsimp only at hSw); go_simp; try (with_reducible rfl))
          simp only [Act.put, List.setIfInBounds_toArray, List.set_cons_zero, List.set_cons_succ]
          refine wpAnyH_take (i := 3) (v := ?_) (by (simp only [List.getElem?_toArray, List.getElem?_cons_succ, List.getElem?_cons_zero]; rfl)) (by kernel_rfl) (by kernel_rfl) (by kernel_rfl) (by intro _ _ _ h; exact h) (Or.inl ⟨by rfl, ?_⟩) (by assumption) ?_
          rotate_left
          · (intro wS hSw; (try dsimp only at hSw); obtain ⟨q0, q1⟩ := hSw; go_simp; try (with_reducible rfl))
          simp only [Act.put, List.setIfInBounds_toArray, List.set_cons_zero, List.set_cons_succ]
          refine wpAnyH_take (i := 4) (v := ?_) (by (simp only [List.getElem?_toArray, List.getElem?_cons_succ, List.getElem?_cons_zero]; rfl)) (by kernel_rfl) (by kernel_rfl) (by kernel_rfl) (by intro _ _ _ h; exact h) (Or.inl ⟨by rfl, ?_⟩) (by assumption) ?_
          rotate_left
          · (intro w hSw; (try dsimp only at hSw); go_simp; try (with_reducible rfl))
          simp only [Act.put, List.setIfInBounds_toArray, List.set_cons_zero, List.set_cons_succ]
          refine wpAnyH_take (i := 5) (v := ?_) (by (simp only [List.getElem?_toArray, List.getElem?_cons_succ, List.getElem?_cons_zero]; rfl)) (by kernel_rfl) (by kernel_rfl) (by kernel_rfl) (by intro _ _ _ h; exact h) (Or.inl ⟨by rfl, ?_⟩) (by assumption) ?_
          rotate_left
          · (intro w hSw; (try dsimp only at hSw); go_simp; try (with_reducible rfl))
          simp only [Act.put, List.setIfInBounds_toArray, List.set_cons_zero, List.set_cons_succ]
          refine wpAnyH_take (i := 6) (v := ?_) (by (simp only [List.getElem?_toArray, List.getElem?_cons_succ, List.getElem?_cons_zero]; rfl)) (by kernel_rfl) (by kernel_rfl) (by kernel_rfl) (by intro _ _ _ h; exact h) (Or.inl ⟨by rfl, ?_⟩) (by assumption) ?_
          rotate_left
          · (intro w hSw; (try dsimp only at hSw); go_simp; try (with_reducible rfl))
          simp only [Act.put, List.setIfInBounds_toArray, List.set_cons_zero, List.set_cons_succ]
          refine wpAnyH_take (i := 7) (v := ?_) (by (simp only [List.getElem?_toArray, List.getElem?_cons_succ, List.getElem?_cons_zero]; rfl)) (by kernel_rfl) (by kernel_rfl) (by kernel_rfl) (by intro _ _ _ h; exact h) (Or.inl ⟨by rfl, ?_⟩) (by assumption) ?_
          rotate_left
          · (intro w hSw; (try dsimp only at hSw); go_simp; try (with_reducible rfl))
          simp only [Act.put, List.setIfInBounds_toArray, List.set_cons_zero, List.set_cons_succ]
          refine wpAnyH_take (i := 8) (v := ?_) (by (simp only [List.getElem?_toArray, List.getElem?_cons_succ, List.getElem?_cons_zero]; rfl)) (by kernel_rfl) (by kernel_rfl) (by kernel_rfl) (by intro _ _ _ h; exact h) (Or.inl ⟨by rfl, ?_⟩) (by assumption) ?_
          rotate_left
          · (intro wS hSw; (try dsimp only at hSw); obtain ⟨q0, q1⟩ := hSw; go_simp; try (with_reducible rfl))
          simp only [Act.put, List.setIfInBounds_toArray, List.set_cons_zero, List.set_cons_succ]
          refine wpAnyH_take (i := 9) (v := ?_) (by (simp only [List.getElem?_toArray, List.getElem?_cons_succ, List.getElem?_cons_zero]; rfl)) (by kernel_rfl) (by kernel_rfl) (by kernel_rfl) (by intro _ _ _ h; exact h) (Or.inl ⟨by rfl, ?_⟩) (by assumption) ?_
          rotate_left
          · (intro w hSw; (try dsimp only at hSw); go_simp; try (with_reducible rfl))
          simp only [Act.put, List.setIfInBounds_toArray, List.set_cons_zero, List.set_cons_succ]
          refine wpAnyH_take (i := 11) (v := ?_) (by (simp only [List.getElem?_toArray, List.getElem?_cons_succ, List.getElem?_cons_zero]; rfl)) (by kernel_rfl) (by kernel_rfl) (by kernel_rfl) (by intro _ _ _ h; exact h) (Or.inl ⟨by rfl, ?_⟩) (by assumption) ?_
          rotate_left
          · (intro w hSw; (try dsimp only at hSw); go_simp; try (with_reducible rfl))
          simp only [Act.put, List.setIfInBounds_toArray, List.set_cons_zero, List.set_cons_succ]
          refine wpAnyH_take (i := 12) (v := ?_) (by (simp only [List.getElem?_toArray, List.getElem?_cons_succ, List.getElem?_cons_zero]; rfl)) (by kernel_rfl) (by kernel_rfl) (by kernel_rfl) (by intro _ _ _ h; exact h) (Or.inl ⟨by rfl, ?_⟩) (by assumption) ?_
          rotate_left
          · (intro w hSw; (try dsimp only at hSw); go_simp; try (with_reducible rfl))
          simp only [Act.put, List.setIfInBounds_toArray, List.set_cons_zero, List.set_cons_succ]
          refine wpAnyH_take (i := 13) (v := ?_) (by (simp only [List.getElem?_toArray, List.getElem?_cons_succ, List.getElem?_cons_zero]; rfl)) (by kernel_rfl) (by kernel_rfl) (by kernel_rfl) (by intro _ _ _ h; exact h) (Or.inl ⟨by rfl, ?_⟩) (by assumption) ?_
          rotate_left
          · (intro w hSw; (try dsimp only at hSw); go_simp; try (with_reducible rfl))
          simp only [Act.put, List.setIfInBounds_toArray, List.set_cons_zero, List.set_cons_succ]
          refine wpAnyH_take (i := 14) (v := ?_) (by (simp only [List.getElem?_toArray, List.getElem?_cons_succ, List.getElem?_cons_zero]; rfl)) (by kernel_rfl) (by kernel_rfl) (by kernel_rfl) (by intro _ _ _ h; exact h) (Or.inl ⟨by rfl, ?_⟩) (by assumption) ?_
          rotate_left
          · (intro wS hSw; (try dsimp only at hSw); obtain ⟨q0, q1⟩ := hSw; go_simp; try (with_reducible rfl))
          simp only [Act.put, List.setIfInBounds_toArray, List.set_cons_zero, List.set_cons_succ]
          refine wpAnyH_take (i := 15) (v := ?_) (by (simp only [List.getElem?_toArray, List.getElem?_cons_succ, List.getElem?_cons_zero]; rfl)) (by kernel_rfl) (by kernel_rfl) (by kernel_rfl) (by intro _ _ _ h; exact h) (Or.inl ⟨by rfl, ?_⟩) (by assumption) ?_
          rotate_left
          · (intro w hSw; (try dsimp only at hSw); go_simp; try (with_reducible rfl))
          simp only [Act.put, List.setIfInBounds_toArray, List.set_cons_zero, List.set_cons_succ]
          have hlk := (HKd.out.wat (hnoT _)).look (v := x) (by show x ≤ 1000000; omega)
          have hga : wd.grownBy (wd.alloc (.cells #[.int .i64 (S1.list.length : Int)] 3)) none := World.grownBy_alloc _ _ _
          have HGA := Lib.hid hga
          have hlk2 := ((HKd.out.keep0 hga).wat (hnoT _)).look (v := x) (by show x ≤ 1000000; omega)
          have HSA := Lib.hid (show (wd.alloc (.cells #[.int .i64 (S1.list.length : Int)] 3)).cell? ⟨M.K, 2, none⟩ = some (.map (some M1.bW)) ∧ (wd.alloc (.cells #[.int .i64 (S1.list.length : Int)] 3)).cell? ⟨M.K, 3, none⟩ = some (.slice al S1.list.length cl3) from ⟨HGA.out.cell HB9.out.1 (by simp), HGA.out.cell HB9.out.2 (by simp)⟩)
          clear hga
          refine wpAnyH_ready (rs := [10, 16]) (by kernel_rfl) (by simp) ?_
          refine AllReadyH.cons (by (simp only [List.getElem?_toArray, List.getElem?_cons_succ, List.getElem?_cons_zero]; rfl)) (fun K hK1 => ?_) (AllReadyH.cons (by (simp only [List.getElem?_toArray, List.getElem?_cons_succ, List.getElem?_cons_zero]; rfl)) (fun K hK1 => ?_) AllReadyH.nil)
          · go_simp
            refine hK1.out _ _ (by (try dsimp only); exact HB9.out) (fun hHeld => ?_)
            clear hK1 K
            try simp only [Act.put, List.setIfInBounds_toArray, List.set_cons_zero, List.set_cons_succ]
            refine wpAnyH_ready (rs := [16]) (by kernel_rfl) (by simp) ?_
            refine AllReadyH.cons (by (simp only [List.getElem?_toArray, List.getElem?_cons_succ, List.getElem?_cons_zero]; rfl)) (fun K hK1 => ?_) AllReadyH.nil
            go_simp
            refine hK1.out _ _ (by (try dsimp only); exact HSA.out) (fun hHeld => ?_)
            clear hK1 K
            try simp only [Act.put, List.setIfInBounds_toArray, List.set_cons_zero, List.set_cons_succ]
            clear hlk hlk2
            refine wpAnyH_ready (rs := [17]) (by kernel_rfl) (by simp) ?_
            refine AllReadyH.cons (by (simp only [List.getElem?_toArray, List.getElem?_cons_succ, List.getElem?_cons_zero]; rfl)) (fun K hK1 => ?_) AllReadyH.nil
            refine step_appI rfl (.tmp 62) (.tmp 68) rfl wd S1.list.length (v := M1.rw x) rfl rfl (HKd.out.row x (hnoT _)) hrl HKd.out.base ?_
            intro g5 cap5 w5 ho5 hg5 hat5
            obtain ⟨w6, M6, hu, hg6, hk6, hf6⟩ := watch16 HKd.out x S1.list.length hxl hvsb ho5 hg5 hat5
            have hne5 : some M1.K ≠ (M1.rw x).ownBlock := fun e => by have e1 := HKd.out.tr x _ e.symm; rw [HKd.out.tK] at e1; cases e1
            have HS5 := Lib.hid (show w5.cell? ⟨M.K, 2, none⟩ = some (.map (some M1.bW)) ∧ w5.cell? ⟨M.K, 3, none⟩ = some (.slice al S1.list.length cl3) from ⟨hg5.cell HB9.out.1 (by rw [← hK]; exact hne5), hg5.cell HB9.out.2 (by rw [← hK]; exact hne5)⟩)
            have hne6 : some M1.K ≠ some M1.bW := fun e => by have e1 := HKd.out.tW; rw [← Option.some.inj e, HKd.out.tK] at e1; cases e1
            have HS6 := Lib.hid (show w6.cell? ⟨M.K, 2, none⟩ = some (.map (some M1.bW)) ∧ w6.cell? ⟨M.K, 3, none⟩ = some (.slice al S1.list.length cl3) from ⟨hg6.cell HS5.out.1 (by rw [← hK]; exact hne6), hg6.cell HS5.out.2 (by rw [← hK]; exact hne6)⟩)
            have HN := Lib.hid (show AW n0 M S1 a b wc (k + 1) w6 M6 from ⟨by rw [HWX.out]; exact hk6, HFd.out.trans hf6⟩)
            clear ho5 hg5 hat5 hg6 hk6 hf6 hne5 hne6 HB9 hHeld
            refine hK1.out _ _ (by (try dsimp only); exact HS5.out) (fun hHeld => ?_)
            clear hK1 K
            try simp only [Act.put, List.setIfInBounds_toArray, List.set_cons_zero, List.set_cons_succ]
            refine wpAnyH_ready (rs := [18]) (by kernel_rfl) (by simp) ?_
            refine AllReadyH.cons (by (simp only [List.getElem?_toArray, List.getElem?_cons_succ, List.getElem?_cons_zero]; rfl)) (fun K hK1 => ?_) AllReadyH.nil
            go_simp
            refine hK1.out _ _ (by (try dsimp only); exact HS6.out) (fun hHeld2 => ?_)
            clear hK1 K
            try simp only [Act.put, List.setIfInBounds_toArray, List.set_cons_zero, List.set_cons_succ]
            refine wpAnyH_done (by kernel_rfl) ?_ _
            go_wp2_with fail
            exact ⟨⟨k + 1, by omega, by go_num, M6, HN.out⟩, by simp [intOf]; omega⟩
          · go_simp
            refine hK1.out _ _ (by (try dsimp only); exact HSA.out) (fun hHeld => ?_)
            clear hK1 K
            try simp only [Act.put, List.setIfInBounds_toArray, List.set_cons_zero, List.set_cons_succ]
            refine wpAnyH_ready (rs := [10]) (by kernel_rfl) (by simp) ?_
            refine AllReadyH.cons (by (simp only [List.getElem?_toArray, List.getElem?_cons_succ, List.getElem?_cons_zero]; rfl)) (fun K hK1 => ?_) AllReadyH.nil
            go_simp
            refine hK1.out _ _ (by (try dsimp only); exact HSA.out) (fun hHeld => ?_)
            clear hK1 K
            try simp only [Act.put, List.setIfInBounds_toArray, List.set_cons_zero, List.set_cons_succ]
            clear hlk hlk2
            refine wpAnyH_ready (rs := [17]) (by kernel_rfl) (by simp) ?_
            refine AllReadyH.cons (by (simp only [List.getElem?_toArray, List.getElem?_cons_succ, List.getElem?_cons_zero]; rfl)) (fun K hK1 => ?_) AllReadyH.nil
            refine step_appI rfl (.tmp 62) (.tmp 68) rfl wd S1.list.length (v := M1.rw x) rfl rfl (HKd.out.row x (hnoT _)) hrl HKd.out.base ?_
            intro g5 cap5 w5 ho5 hg5 hat5
            obtain ⟨w6, M6, hu, hg6, hk6, hf6⟩ := watch16 HKd.out x S1.list.length hxl hvsb ho5 hg5 hat5
            have hne5 : some M1.K ≠ (M1.rw x).ownBlock := fun e => by have e1 := HKd.out.tr x _ e.symm; rw [HKd.out.tK] at e1; cases e1
            have HS5 := Lib.hid (show w5.cell? ⟨M.K, 2, none⟩ = some (.map (some M1.bW)) ∧ w5.cell? ⟨M.K, 3, none⟩ = some (.slice al S1.list.length cl3) from ⟨hg5.cell HB9.out.1 (by rw [← hK]; exact hne5), hg5.cell HB9.out.2 (by rw [← hK]; exact hne5)⟩)
            have hne6 : some M1.K ≠ some M1.bW := fun e => by have e1 := HKd.out.tW; rw [← Option.some.inj e, HKd.out.tK] at e1; cases e1
            have HS6 := Lib.hid (show w6.cell? ⟨M.K, 2, none⟩ = some (.map (some M1.bW)) ∧ w6.cell? ⟨M.K, 3, none⟩ = some (.slice al S1.list.length cl3) from ⟨hg6.cell HS5.out.1 (by rw [← hK]; exact hne6), hg6.cell HS5.out.2 (by rw [← hK]; exact hne6)⟩)
            have HN := Lib.hid (show AW n0 M S1 a b wc (k + 1) w6 M6 from ⟨by rw [HWX.out]; exact hk6, HFd.out.trans hf6⟩)
            clear ho5 hg5 hat5 hg6 hk6 hf6 hne5 hne6 HB9 hHeld
            refine hK1.out _ _ (by (try dsimp only); exact HS5.out) (fun hHeld => ?_)
            clear hK1 K
            try simp only [Act.put, List.setIfInBounds_toArray, List.set_cons_zero, List.set_cons_succ]
            refine wpAnyH_ready (rs := [18]) (by kernel_rfl) (by simp) ?_
            refine AllReadyH.cons (by (simp only [List.getElem?_toArray, List.getElem?_cons_succ, List.getElem?_cons_zero]; rfl)) (fun K hK1 => ?_) AllReadyH.nil
            go_simp
            refine hK1.out _ _ (by (try dsimp only); exact HS6.out) (fun hHeld2 => ?_)
            clear hK1 K
            try simp only [Act.put, List.setIfInBounds_toArray, List.set_cons_zero, List.set_cons_succ]
            refine wpAnyH_done (by kernel_rfl) ?_ _
            go_wp2_with fail
            exact ⟨⟨k + 1, by omega, by go_num, M6, HN.out⟩, by simp [intOf]; omega⟩
        · have hk2e : k = 2 := by omega
          subst hk2e
          have hkI : (2 : Int) ≤ ((2 : Nat) : Int) := by omega
          have htag : M1.tag gl = .free := (HA.out.frm.tags gl hgll).trans htgl
          have hks := HA.out.ks.retag (X := gl) (t := .cl S1.list.length) htag hgll0 (Nat.lt_of_lt_of_le hgll HA.out.frm.size)
          have HKS := Lib.hid hks
          have hc3 : wr.cell? ⟨M.K, 3, none⟩ = some M1.vl := by rw [← hK]; exact hks.cell (hnoT _) 3
          have ho3 := hks.lst (hnoT _)
          have hb3 := hks.base
          have htgt : tagAt M1.tag gl (.cl S1.list.length) gl = .cl S1.list.length := by unfold tagAt; rw [if_pos rfl]
          clear hks hor
          go_wp2_with (at_builtin
                       refine appR rfl _ _ rfl wr (some ⟨gl, 0, none⟩) lits.length cc (by rfl) (by rfl) ho3 (by show S1.list.length ≤ _; omega) hb3 ?_)
          intro g5 cap5 w5 ho5 hg5 hat5
          obtain ⟨f, hk5, hf1, hf2, hf3⟩ := HKS.out.grow (v' := .slice (some ⟨g5, 0, none⟩) (S1.list.length + 1) cap5) (t := .lst) (by simp) hg5 HKS.out.tl (hat5.elim (fun e => .inl e.symm) (fun e => .inr ⟨g5, rfl, e⟩))
          have hn5 : ¬ orT noT .lst .top := fun h => h.elim id (by simp)
          have hc35 : w5.cell? ⟨M.K, 3, none⟩ = some M1.vl := by rw [← hK]; exact hk5.cell hn5 3
          have hf35 : w5.frozen? ⟨M.K, 3, none⟩ = false := by rw [← hK]; exact hk5.froz hn5 3
          have hk6 := hk5.more (c := a :: b :: r) (vc := .slice (some ⟨gl, 0, none⟩) lits.length cc) hn5 ho5 hf1 (by
            rw [show (a :: b :: r).length = lits.length from hlen]
            exact HOr.out.kept hg5 (.inr (fun e => by
              have e1 := HKS.out.tl gl e.symm
              have e2 : tagAt M1.tag gl (.cl S1.list.length) gl = .lst := e1
              rw [htgt] at e2
              cases e2))) (fun b hb => by
            cases hb
            exact (hf3 gl (by show tagAt M1.tag gl (.cl S1.list.length) gl ≠ _; rw [htgt]; simp)).trans htgt)
          have hBr := HBc.out.trans (HA.out.frm.below (by simp [wlT]) HKc.out)
          have hB5 : Below n0 w w5 := hBr.trans (grown_below hg5 (fun b hb => (ho3.lt b hb).1) hb3)
          have HF := Lib.hid (show AddP L d (vsAll S.vs c) S.list.length M n0 w (.returned (.tuple #[])) (w5.setCell ⟨M.K, 3, none⟩ (.slice (some ⟨g5, 0, none⟩) (S1.list.length + 1) cap5)) from
            ⟨rfl, { M1 with tag := f, vl := .slice (some ⟨g5, 0, none⟩) (S1.list.length + 1) cap5, lv := M1.lv ++ [.slice (some ⟨gl, 0, none⟩) lits.length cc] }, _, by rw [← hK]; exact hk6.less (fun t ht => ht.1.elim id (fun e => absurd e ht.2)), hB5.setCell (p := ⟨M.K, 3, none⟩) (by rw [← hK]; exact (HKS.out.lt (b := M1.K) (by rw [HKS.out.tK]; simp)).1) _, HR2.out, hv1, by show (S1.list ++ [a :: b :: r]).length ≤ _; have := HL1.out; simp; omega, hK⟩)
          clear ho5 hg5 hat5 hk5 hf1 hf2 hf3 hk6 hBr hB5 ho3 hc3
          go_wp2
          go_end0
          exact HF.out
end Go.Proofs.Ytmiiclhhenepiaa
