/-
  Layer 16: the walk of goOn. Own work.
-/
import Derived.Test.YtmiiclhhenepiaaVs16
namespace Go.Proofs.Ytmiiclhhenepiaa
set_option linter.unusedVariables false
set_option linter.unusedSimpArgs false
open Go.RowKit Go.WideElems Go.MapKept

/-- what goOn leaves -/
structure GoR (L : List (List Nat)) (A B G : Nat → Prop) (M : Mm) (S : St) (n0 : Nat) (w : World) (b : Bool) (w' : World) (M' : Mm) (S' : St) : Prop where
  ks : KS w' n0 M' S' noT
  frm : Frm M M' fT w w'
  safe : Safe S' S'.wat
  lg : Lg L A B G S'
  pre : ∃ ext, S'.trail = S.trail ++ ext
  vs : S'.vs = S.vs
  broken : S'.broken = S.broken
  len : S'.list.length = S.list.length
  yes : b = true → S'.head = S'.trail.length ∧ ∀ (n : Nat) c, S'.list[n]? = some c → Wp ng (fun x => x ∈ S'.trail) (fun x => x ∈ S'.trail) c
  no : b = false → Conf ng L A
def GoP (L : List (List Nat)) (A B G : Nat → Prop) (M : Mm) (S : St) (n0 : Nat) (w : World) (e : Ending) (w' : World) : Prop :=
  ∃ b M' S', e = .returned (.bool b) ∧ GoR L A B G M S n0 w b w' M' S'
/-- on the way -/
structure GI (L : List (List Nat)) (A B G : Nat → Prop) (M : Mm) (S : St) (n0 : Nat) (w wr : World) (M1 : Mm) (S1 : St) : Prop where
  ks : KS wr n0 M1 S1 noT
  frm : Frm M M1 fT w wr
  safe : Safe S1 S1.wat
  lg : Lg L A B G S1
  pre : ∃ ext, S1.trail = S.trail ++ ext
  vs : S1.vs = S.vs
  broken : S1.broken = S.broken
  len : S1.list.length = S.list.length
  wp : ∀ (n : Nat) c, S1.list[n]? = some c → Wp ng (fun x => x ∈ S1.trail.take S1.head) (fun x => x ∈ S1.trail) c
def headW (K : Nat) (w : World) : Nat := match w.cell? ⟨K, 5, none⟩ with
  | some (.int _ z) => z.toNat
  | _ => 0
theorem headW_of {w : World} {n0 : Nat} {M : Mm} {S : St} {ex : Tg → Prop} (h : KS w n0 M S ex) (hx : ¬ ex .top) : headW M.K w = S.head := by
  unfold headW
  rw [h.cell hx 5]
  show (S.head : Int).toNat = _
  simp
theorem and1_take {l ext : List Nat} {h x : Nat} (hx : l[h]? = some x) : And1 (fun y => y ∈ l.take h) x = fun y => y ∈ (l ++ ext).take (h + 1) := by
  funext y
  have hl := (List.getElem?_eq_some_iff.1 hx).1
  rw [List.take_append_of_le_length (by omega), List.take_add_one, hx]
  simp [And1]
set_option maxRecDepth 100000 in
set_option maxHeartbeats 4000000 in
theorem goOn_any {L : List (List Nat)} {A B G : Nat → Prop} {M : Mm} {S : St} {n0 : Nat} {w : World} (h : KS w n0 M S noT) (hs : Safe S S.wat) (hl : Lg L A B G S) (hw : ∀ (n : Nat) c, S.list[n]? = some c → Wp ng (fun x => x ∈ S.trail.take S.head) (fun x => x ∈ S.trail) c)
    (hv : S.vs.length ≤ 100000) (hln : S.list.length ≤ 1000000) :
    Calls Try.prog 28 #[.pointer (some ⟨M.K, 0, none⟩)] w (GoP L A B G M S n0 w) := by
  have HG := Lib.hid (show GI L A B G M S n0 w w M S from ⟨h, Frm.refl _ _ _, hs, hl, ⟨[], by simp⟩, rfl, rfl, rfl, hw⟩)
  clear h hs hl hw
  have hnoT : ∀ t, ¬ noT t := fun t => id
  go_enter Try.func28, Try.ntmps28
  go_wp2_with fail
  go_loopw [] (fun wr => ∃ M1 S1, GI L A B G M S n0 w wr M1 S1) (fun wr => 2 * S.vs.length - headW M.K wr)
  case atStart => exact ⟨M, S, HG.out⟩
  case round =>
    obtain ⟨M1, S1, hg⟩ := hrel
    have HI := Lib.hid hg
    have hc4 : wr.cell? ⟨M1.K, 4, none⟩ = some M1.vt := hg.ks.cell (hnoT _) 4
    have hc5 : wr.cell? ⟨M1.K, 5, none⟩ = some (.int .i64 (S1.head : Int)) := hg.ks.cell (hnoT _) 5
    have hf5 : wr.frozen? ⟨M1.K, 5, none⟩ = false := hg.ks.froz (hnoT _) 5
    have hw5 := headW_of hg.ks (hnoT _)
    rw [hg.frm.K] at hc4 hc5 hf5 hw5
    have htl := hg.safe.trLen
    have hhd := hg.safe.hd
    have hvs := hg.vs
    rw [hvs] at htl
    have hll := hg.len
    have htr := hg.ks.trl (hnoT _)
    clear hg HG
    by_cases hlt : S1.head < S1.trail.length
    · obtain ⟨x, hx⟩ : ∃ x, S1.trail[S1.head]? = some x := ⟨_, List.getElem?_eq_getElem hlt⟩
      obtain ⟨gt, capt, hvt, hct1, hct2⟩ := own_form htr (by omega)
      rw [hvt] at htr hc4
      have hcx : wr.cell? ⟨gt, S1.head, none⟩ = some (.int .i64 (x : Int)) := own_cell16 htr (map_get hx)
      have hltI : (S1.head : Int) < (S1.trail.length : Int) := by omega
      have hcpI : (S1.trail.length : Int) ≤ 9223372036854775807 := by omega
      have hxl := HI.out.safe.tr x (List.mem_of_getElem? hx)
      have hxor := xor16 (x := x) (by rw [hvs] at hxl; omega)
      have HX := Lib.hid hx
      clear htr hx
      have hk3 : KS (wr.drew.drew.setCell ⟨M.K, 5, none⟩ (.int .i64 ((S1.head : Int) + 1))) n0 M1 { S1 with head := S1.head + 1 } noT := by
        have := HI.out.ks.drew.drew.head (hnoT _) (S1.head + 1)
        rw [HI.out.frm.K] at this
        exact this
      have hf3 : Frm M M1 fT w (wr.drew.drew.setCell ⟨M.K, 5, none⟩ (.int .i64 ((S1.head : Int) + 1))) := by
        have e1 : Frm M1 M1 fT wr wr.drew.drew := (Frm.of (grown_drew _) (fun b hb => by cases hb)).trans (Frm.of (grown_drew _) (fun b hb => by cases hb))
        exact HI.out.frm.trans (e1.trans (Frm.of (grown_set _ _ _) (fun b hb => by rw [← Option.some.inj hb, ← HI.out.frm.K, HI.out.ks.tK]; simp [fT])))
      have hs3 : Safe ({ S1 with head := S1.head + 1 } : St) S1.wat := by
        have h := HI.out.safe
        exact ⟨h.tn, h.tr, h.tk, hlt, h.ln, h.wt, h.wn⟩
      have hl3 : Lg L A B G ({ S1 with head := S1.head + 1 } : St) := by
        have h := HI.out.lg
        exact ⟨h.con, h.der, h.sub, h.all, h.wb, h.bt⟩
      have HV := Lib.hid (visit_any (lit := ng x) (P := fun y => y ∈ S1.trail.take S1.head) hk3 hs3 hl3 HI.out.wp (by rw [ng_ng]; exact List.mem_of_getElem? HX.out) (fun y hy => List.mem_of_mem_take hy) (by exact ng_lt hxl) (by show S1.vs.length ≤ _; rw [hvs]; exact hv) (by show S1.list.length ≤ _; rw [hll]; exact hln))
      have HF3 := Lib.hid hf3
      rw [HI.out.frm.K] at HV
      clear hk3 hf3 hs3 hl3 htl
      go_wp2_with fail
      go_region
      go_wp2_with fail
      go_region
      go_wp2_with fail
      refine HV.out.mono ?_
      rintro e w4 ⟨b, M4, S4, rfl, hr⟩
      have hw4 := headW_of hr.ks (hnoT _)
      rw [hr.frm.K, HI.out.frm.K, hr.head] at hw4
      have hpre : ∃ ext, S4.trail = S.trail ++ ext := by
        obtain ⟨e1, h1⟩ := hr.pre
        obtain ⟨e2, h2⟩ := HI.out.pre
        exact ⟨e2 ++ e1, by rw [h1, ← List.append_assoc, ← h2]⟩
      have HR := Lib.hid hr
      clear hr HV
      cases b with
      | true =>
        have HN := Lib.hid (show GI L A B G M S n0 w w4 M4 S4 from ⟨HR.out.ks, HF3.out.trans HR.out.frm, HR.out.safe, HR.out.lg, hpre, HR.out.vs.trans hvs, HR.out.broken.trans HI.out.broken, HR.out.len.trans hll, fun n c hc => by
          have h1 := HR.out.yes rfl n c hc
          rw [ng_ng] at h1
          obtain ⟨ext, he⟩ := HR.out.pre
          rw [and1_take (ext := ext) HX.out] at h1
          rw [HR.out.head]
          rw [show S4.trail.take (S1.head + 1) = (S1.trail ++ ext).take (S1.head + 1) from by rw [he]]
          exact h1⟩)
        have htl4 : S1.head + 1 ≤ 2 * S.vs.length := by
          have := HI.out.safe.trLen
          rw [hvs] at this
          omega
        have HM := Lib.hid (show 2 * S.vs.length - headW M.K w4 < 2 * S.vs.length - headW M.K wr from by
          rw [hw4, hw5]
          show 2 * S.vs.length - (S1.head + 1) < _
          omega)
        clear hpre hw4 HR HF3
        go_wp2_with fail
        exact ⟨⟨M4, S4, HN.out⟩, HM.out⟩
      | false =>
        have HN := Lib.hid (show GoR L A B G M S n0 w false w4 M4 S4 from ⟨HR.out.ks, HF3.out.trans HR.out.frm, HR.out.safe, HR.out.lg, hpre, HR.out.vs.trans hvs, HR.out.broken.trans HI.out.broken, HR.out.len.trans hll, (fun h => by cases h), fun _ => HR.out.no rfl⟩)
        clear hpre hw4 HR HF3
        go_wp2
        go_ret
        exact ⟨false, M4, S4, rfl, HN.out⟩
    · have hltI : ¬ (S1.head : Int) < (S1.trail.length : Int) := by omega
      have heq : S1.head = S1.trail.length := by omega
      obtain ⟨at4, nt4, ct4, hvt, hnt⟩ : ∃ a n c, M1.vt = .slice a n c ∧ n = S1.trail.length := by
        rcases htr.2 with ⟨e, e0⟩ | ⟨g, c, cur, e, _⟩
        · exact ⟨none, 0, 0, e, e0.symm⟩
        · exact ⟨_, _, _, e, rfl⟩
      rw [hvt] at hc4
      subst hnt
      have HN := Lib.hid (show GoR L A B G M S n0 w true wr.drew M1 S1 from ⟨HI.out.ks.drew, HI.out.frm.trans (Frm.of (grown_drew _) (fun b hb => by cases hb)), HI.out.safe, HI.out.lg, HI.out.pre, hvs, HI.out.broken, hll, (fun _ => ⟨heq, fun n c hc => by
        have h1 := HI.out.wp n c hc
        rw [heq, List.take_length] at h1
        exact h1⟩), fun h => by cases h⟩)
      clear htr hvt heq HI
      go_wp2_with fail
      go_region
      go_wp2
      go_ret
      exact ⟨true, M1, S1, rfl, HN.out⟩
end Go.Proofs.Ytmiiclhhenepiaa
