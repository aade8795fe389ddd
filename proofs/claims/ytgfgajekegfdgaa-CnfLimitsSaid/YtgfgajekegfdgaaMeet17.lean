/-
  Layer 17: what is met from a node: as mathematics, and the contract of the closure that meets. Own work.
-/
import Derived.Test.YtgfgajekegfdgaaCls17
namespace Go.Proofs.Ytgfgajekegfdgaa
set_option linter.unusedVariables false
set_option linter.unusedSimpArgs false
open Go.RowKit

def alw (ts : List Bool) (i : Nat) : Prop := ts[i]? = some true
/-- does the one want the other? -/
def Edge (d : Dl) (i y : Nat) : Prop := ∃ ws w, d.ws[i]? = some ws ∧ w ∈ ws ∧ (y : Int) ∈ w
/-- come to from r by wants, over what may be taken alone -/
def Rch (d : Dl) (ts : List Bool) (r i : Nat) : Prop := ∀ S : Nat → Prop, (alw ts r → S r) → (∀ i y, S i → Edge d i y → alw ts y → S y) → S i
section
variable {d : Dl} {ts : List Bool} {n y i r : Nat} {M M' M1 Mk M2 : List Bool} {P : Nat → Prop}
theorem Rch.refl (h : alw ts r) : Rch d ts r r := fun S h0 _ => h0 h
theorem Rch.step (h : Rch d ts r i) (he : Edge d i y) (ha : alw ts y) : Rch d ts r y := fun S h0 h1 => h1 i y (h S h0 h1) he ha
theorem Rch.head (hn : alw ts n) (he : Edge d n y) (h : Rch d ts y i) : Rch d ts n i := fun S h0 h1 => h S (fun ha => h1 n y (h0 hn) he ha) h1
structure MeetP (d : Dl) (ts : List Bool) (n : Nat) (M M' : List Bool) : Prop where
  len : M'.length = M.length
  mono : ∀ i : Nat, M[i]? = some true → M'[i]? = some true
  hit : alw ts n → M'[n]? = some true
  src : ∀ i : Nat, M'[i]? = some true → M[i]? = some true ∨ Rch d ts n i
  closed : ∀ i : Nat, M'[i]? = some true → M[i]? = some true ∨ ∀ y, Edge d i y → alw ts y → M'[y]? = some true
/-- while a node's wants are gone through: those in P are done -/
structure LoopP (d : Dl) (ts : List Bool) (n : Nat) (M1 : List Bool) (P : Nat → Prop) (Mk : List Bool) : Prop where
  len : Mk.length = M1.length
  mono : ∀ i : Nat, M1[i]? = some true → Mk[i]? = some true
  src : ∀ i : Nat, Mk[i]? = some true → M1[i]? = some true ∨ Rch d ts n i
  closed : ∀ i : Nat, Mk[i]? = some true → M1[i]? = some true ∨ ∀ y, Edge d i y → alw ts y → Mk[y]? = some true
  done : ∀ y, P y → alw ts y → Mk[y]? = some true
theorem MeetP.there (h : M[n]? = some true) : MeetP d ts n M M := ⟨rfl, fun _ h => h, fun _ => h, fun _ h => .inl h, fun _ h => .inl h⟩
theorem MeetP.not (h : ¬ alw ts n) : MeetP d ts n M M := ⟨rfl, fun _ h => h, fun h' => absurd h' h, fun _ h => .inl h, fun _ h => .inl h⟩
theorem LoopP.start (hP : ∀ y, ¬ P y) : LoopP d ts n M1 P M1 := ⟨rfl, fun _ h => h, fun _ h => .inl h, fun _ h => .inl h, fun y h => absurd h (hP y)⟩
theorem LoopP.weak {P' : Nat → Prop} (h : LoopP d ts n M1 P Mk) (hP : ∀ y, P' y → P y) : LoopP d ts n M1 P' Mk := ⟨h.len, h.mono, h.src, h.closed, fun y hy ha => h.done y (hP y hy) ha⟩
theorem LoopP.step {P' : Nat → Prop} (h : LoopP d ts n M1 P Mk) (hn : alw ts n) (he : Edge d n y) (hm : MeetP d ts y Mk M2) (hP : ∀ z, P' z → P z ∨ z = y) : LoopP d ts n M1 P' M2 := by
  refine ⟨hm.len.trans h.len, fun i hi => hm.mono i (h.mono i hi), fun i hi => ?_, fun i hi => ?_, fun z hz ha => ?_⟩
  · rcases hm.src i hi with h2 | h2
    · exact h.src i h2
    · exact .inr (Rch.head hn he h2)
  · rcases hm.closed i hi with h2 | h2
    · rcases h.closed i h2 with h3 | h3
      · exact .inl h3
      · exact .inr fun y hy ha => hm.mono y (h3 y hy ha)
    · exact .inr h2
  · rcases hP z hz with h2 | rfl
    · exact hm.mono z (h.done z h2 ha)
    · exact hm.hit ha
theorem LoopP.end (h : LoopP d ts n (M.set n true) P Mk) (hn : alw ts n) (hl : n < M.length) (hP : ∀ y, Edge d n y → P y) : MeetP d ts n M Mk := by
  have hset : ∀ i : Nat, (M.set n true)[i]? = some true ↔ (M[i]? = some true ∨ i = n) := fun i => by
    rw [List.getElem?_set]
    by_cases e : n = i
    · subst e; simp [hl]
    · rw [if_neg e]
      exact ⟨.inl, fun h => h.resolve_right (fun e2 => e e2.symm)⟩
  refine ⟨by rw [h.len, List.length_set], fun i hi => h.mono i ((hset i).2 (.inl hi)), fun _ => h.mono n ((hset n).2 (.inr rfl)), fun i hi => ?_, fun i hi => ?_⟩
  · rcases h.src i hi with h2 | h2
    · rcases (hset i).1 h2 with h3 | rfl
      · exact .inl h3
      · exact .inr (Rch.refl hn)
    · exact .inr h2
  · rcases h.closed i hi with h2 | h2
    · rcases (hset i).1 h2 with h3 | rfl
      · exact .inl h3
      · exact .inr fun y hy ha => h.done y (hP y hy) ha
    · exact .inr h2
end
/-! how many are not met yet -/
theorem sumN_mono {f g : Nat → Nat} : ∀ n, (∀ i, i < n → f i ≤ g i) → sumN f n ≤ sumN g n
  | 0, _ => Nat.le_refl _
  | n + 1, h => by
    have h1 := sumN_mono n (fun i hi => h i (by omega))
    have h2 := h n (by omega)
    rw [sumN, sumN]; omega
theorem sumN_lt {f g : Nat → Nat} {j : Nat} : ∀ n, j < n → f j < g j → (∀ i, i < n → f i ≤ g i) → sumN f n < sumN g n
  | 0, h, _, _ => by omega
  | n + 1, hj, hlt, h => by
    rw [sumN, sumN]
    have h2 := h n (by omega)
    by_cases e : j = n
    · subst e
      have h1 := sumN_mono (f := f) (g := g) j (fun i hi => h i (by omega))
      omega
    · have h1 := sumN_lt n (by omega) hlt (fun i hi => h i (by omega))
      omega
def mu (M : List Bool) : Nat := sumN (fun i => if M[i]? = some true then 0 else 1) M.length
theorem mu_mono {M M' : List Bool} (hl : M'.length = M.length) (h : ∀ i : Nat, M[i]? = some true → M'[i]? = some true) : mu M' ≤ mu M := by
  unfold mu
  rw [hl]
  refine sumN_mono _ fun i _ => ?_
  by_cases hi : M[i]? = some true
  · rw [if_pos (h i hi), if_pos hi]; exact Nat.le_refl _
  · rw [if_neg hi]; split <;> omega
theorem mu_set {M : List Bool} {n : Nat} (hn : n < M.length) (h : M[n]? = some false) : mu (M.set n true) < mu M := by
  unfold mu
  rw [List.length_set]
  refine sumN_lt (j := n) _ hn ?_ fun i _ => ?_
  · rw [if_pos (by simp [hn]), if_neg (by rw [h]; simp)]; omega
  · by_cases e : n = i
    · subst e; rw [if_pos (by simp [hn])]; omega
    · rw [List.getElem?_set, if_neg e]; exact Nat.le_refl _
/-! the closure -/
/-- w is w0, but for the row of truths in block MB -/
def MS (w0 : World) (MB : Nat) (M : List Bool) (w : World) : Prop := w.heap[MB]? = some (.cells (M.map bV).toArray 4 (0, 0)) ∧ w0.grownBy w (some MB)
theorem MS.store {w0 w : World} {MB : Nat} {M : List Bool} (h : MS w0 MB M w) (n : Nat) : MS w0 MB (M.set n true) (w.setCell ⟨MB, n, none⟩ (.bool true)) := by
  refine ⟨?_, ?_⟩
  · have := heap_setCell_same w MB n _ _ (.bool true) h.1
    rw [this]
    congr 2
    apply Array.ext'
    simp [List.map_set, bV]
  · have h2 : w.grownBy (w.setCell ⟨MB, n, none⟩ (.bool true)) (some MB) := ⟨rfl, rfl, rfl, by simp, fun k _ hk => heap_setCell_other w ⟨MB, n, none⟩ k _ (fun e => hk (by simp [e]))⟩
    exact ⟨h2.os.trans h.2.os, h2.tape.trans h.2.tape, h2.output.trans h.2.output, Nat.le_trans h.2.size h2.size, fun k hk hne => (h2.block k (Nat.lt_of_lt_of_le hk h.2.size) hne).trans (h.2.block k hk hne)⟩
structure TkEnv (d : Dl) (ts : List Bool) (w1 w0 : World) (MB METV TRV D FV : Nat) (vi vw vt : Value) : Prop where
  rd : RdD w1 vi vw d
  rt : Reads w1 bV vt ts
  di : DlIn w1 D vi vw d.root
  ct : w1.cell? ⟨TRV, 0, none⟩ = some vt
  b : Below w1.heap.size w1 w0
  mb : w1.heap.size ≤ MB
  cm : w0.cell? ⟨METV, 0, none⟩ = some (.slice (some ⟨MB, 0, none⟩) d.its.length d.its.length)
  nm : METV ≠ MB
  cf : w0.cell? ⟨FV, 0, none⟩ = some (.func (.func 26) #[] #[.pointer (some ⟨METV, 0, none⟩), .pointer (some ⟨TRV, 0, none⟩), .pointer (some ⟨D, 0, none⟩), .pointer (some ⟨FV, 0, none⟩)])
  nf : FV ≠ MB
  hm : mayD d = 0
section
variable {d : Dl} {ts : List Bool} {w1 w0 w : World} {MB METV TRV D FV : Nat} {vi vw vt : Value} {M : List Bool}
theorem TkEnv.below (E : TkEnv d ts w1 w0 MB METV TRV D FV vi vw vt) (h : MS w0 MB M w) : Below w1.heap.size w1 w := E.b.grown h.2 E.b.size (fun k hk => by cases hk; exact E.mb)
theorem TkEnv.met (E : TkEnv d ts w1 w0 MB METV TRV D FV vi vw vt) (h : MS w0 MB M w) : w.cell? ⟨METV, 0, none⟩ = some (.slice (some ⟨MB, 0, none⟩) d.its.length d.its.length) :=
  (World.cell?_of_block (w := w0) (h.2.block METV (World.block_lt_of_cell? w0 _ E.cm) (fun e => E.nm (Option.some.inj e)))).trans E.cm
theorem TkEnv.fv (E : TkEnv d ts w1 w0 MB METV TRV D FV vi vw vt) (h : MS w0 MB M w) : w.cell? ⟨FV, 0, none⟩ = some (.func (.func 26) #[] #[.pointer (some ⟨METV, 0, none⟩), .pointer (some ⟨TRV, 0, none⟩), .pointer (some ⟨D, 0, none⟩), .pointer (some ⟨FV, 0, none⟩)]) :=
  (World.cell?_of_block (w := w0) (h.2.block FV (World.block_lt_of_cell? w0 _ E.cf) (fun e => E.nf (Option.some.inj e)))).trans E.cf
theorem MS.cell (h : MS w0 MB M w) {n : Nat} {b : Bool} (hn : M[n]? = some b) : w.cell? ⟨MB, n, none⟩ = some (.bool b) ∧ w.frozen? ⟨MB, n, none⟩ = false :=
  ⟨by rw [cell_of_row w MB n _ _ (0, 0) h.1]; simp [hn, bV], frozen_of_row w MB n _ _ h.1⟩
end
def MeetPost (d : Dl) (ts : List Bool) (w0 : World) (MB n : Nat) (M : List Bool) (e : Ending) (w' : World) : Prop := e = .returned (.tuple #[]) ∧ ∃ M', MS w0 MB M' w' ∧ MeetP d ts n M M'
/-- the wants that are gone through -/
def Pk (ws : List (List Int)) (k : Nat) (y : Nat) : Prop := ∃ w ∈ ws.take k, (y : Int) ∈ w
theorem Pk_start (ws : List (List Int)) (y : Nat) : ¬ Pk ws 0 y := fun ⟨w, hw, _⟩ => by simp at hw
def Pq (ws : List (List Int)) (k : Nat) (w : List Int) (p : Nat) (y : Nat) : Prop := Pk ws k y ∨ (y : Int) ∈ w.take p
theorem Pk_next {ws : List (List Int)} {k : Nat} {w : List Int} (hw : ws[k]? = some w) {y : Nat} (h : Pk ws (k + 1) y) : Pq ws k w w.length y := by
  obtain ⟨v, hv, hy⟩ := h
  rw [List.take_add_one, hw, List.mem_append] at hv
  rcases hv with hv | hv
  · exact .inl ⟨v, hv, hy⟩
  · simp at hv
    subst hv
    exact .inr (by rw [List.take_length]; exact hy)
theorem Pq_next {ws : List (List Int)} {k p : Nat} {w : List Int} {z : Nat} (hz : w[p]? = some (z : Int)) {y : Nat} (h : Pq ws k w (p + 1) y) : Pq ws k w p y ∨ y = z := by
  rcases h with h | h
  · exact .inl (.inl h)
  · rw [List.take_add_one, hz, List.mem_append] at h
    rcases h with h | h
    · exact .inl (.inr h)
    · simp at h
      exact .inr (by omega)
set_option maxRecDepth 100000 in
set_option maxHeartbeats 8000000 in
theorem meet_any (d : Dl) (ts : List Bool) (w1 w0 : World) (MB METV TRV D FV : Nat) (vi vw vt : Value) (E : TkEnv d ts w1 w0 MB METV TRV D FV vi vw vt) : ∀ (fuel : Nat) (M : List Bool) (n : Nat) (w : World), mu M ≤ fuel → M.length = d.its.length → n < d.its.length → MS w0 MB M w →
    Calls Try.prog 26 #[.int .i64 n, .pointer (some ⟨METV, 0, none⟩), .pointer (some ⟨TRV, 0, none⟩), .pointer (some ⟨D, 0, none⟩), .pointer (some ⟨FV, 0, none⟩)] w (MeetPost d ts w0 MB n M) := by
  intro fuel
  induction fuel with
  | zero =>
    intro M n w hmu hl hn hms
    have ht : M[n]? = some true := by
      obtain ⟨b, hb⟩ : ∃ b, M[n]? = some b := ⟨_, List.getElem?_eq_getElem (by omega)⟩
      cases b
      · have := mu_set (by omega) hb
        omega
      · exact hb
    obtain ⟨hc, -⟩ := hms.cell ht
    have hm := E.met hms
    have HMS := Lib.hid hms
    have HT := Lib.hid ht
    have hnI : (n : Int) < d.its.length := by omega
    clear hmu hl hms ht
    go_enter Try.func26, Try.ntmps26
    go_wp2
    go_end0
    exact ⟨rfl, M, HMS.out, MeetP.there HT.out⟩
  | succ fuel ih =>
    intro M n w hmu hl hn hms
    have IH := Lib.hid ih
    clear ih
    have HMS := Lib.hid hms
    have HE := Lib.hid E
    have hm := E.met hms
    have hnI : (n : Int) < d.its.length := by omega
    obtain ⟨b, hb⟩ : ∃ b, M[n]? = some b := ⟨_, List.getElem?_eq_getElem (by omega)⟩
    obtain ⟨hc, hfz⟩ := hms.cell hb
    have HB := Lib.hid hb
    have HL := Lib.hid hl
    have HMU := Lib.hid hmu
    have hbelow := E.below hms
    have hct : w.cell? ⟨TRV, 0, none⟩ = some vt := (hbelow.cell (World.block_lt_of_cell? w1 ⟨TRV, 0, none⟩ E.ct)).trans E.ct
    have hrt := E.rt.below hbelow (Nat.le_refl _)
    have hrl := hrt.len
    obtain ⟨ta, tc, rfl⟩ := hrt.shape
    clear hms hb hl hmu hbelow E
    cases b
    case true =>
      clear hct hrt
      go_enter Try.func26, Try.ntmps26
      go_wp2
      go_end0
      exact ⟨rfl, M, HMS.out, MeetP.there HB.out⟩
    by_cases hT : n < ts.length
    case neg =>
      have hge : (ts.length : Int) ≤ n := by omega
      have HNO := Lib.hid (show ¬ alw ts n from fun h => by unfold alw at h; rw [List.getElem?_eq_none (by omega)] at h; cases h)
      clear hT hrt
      go_enter Try.func26, Try.ntmps26
      go_wp2
      go_end0
      exact ⟨rfl, M, HMS.out, MeetP.not HNO.out⟩
    have hTI : (n : Int) < ts.length := by omega
    have hdT : decide ((ts.length : Int) ≤ n) = false := by simpa using hTI
    have hdT2 : decide (ts.length ≤ n) = false := by simpa using hT
    obtain ⟨t, ht⟩ : ∃ t, ts[n]? = some t := ⟨_, List.getElem?_eq_getElem hT⟩
    obtain ⟨tb, rfl, htc⟩ := hrt.elem ht
    unfold bV at htc
    have HTT := Lib.hid ht
    clear ht hrt hT
    cases t
    case false =>
      have HNO := Lib.hid (show ¬ alw ts n from fun h => by unfold alw at h; rw [HTT.out] at h; cases h)
      go_enter Try.func26, Try.ntmps26
      go_wp2
      go_end0
      exact ⟨rfl, M, HMS.out, MeetP.not HNO.out⟩
    have HAL := Lib.hid (show alw ts n from HTT.out)
    go_enter Try.func26, Try.ntmps26
    go_upto_region 2 with fail
    have HM1 := Lib.hid (HMS.out.store n)
    have HMU1 := Lib.hid (show mu (M.set n true) ≤ fuel from by have := mu_set (M := M) (n := n) (by have := HL.out; omega) HB.out; have := HMU.out; omega)
    generalize w.setCell ⟨MB, n, none⟩ (.bool true) = wa at HM1 ⊢
    clear hm hc hfz hct htc
    obtain ⟨h1024, -, hwl, hall⟩ := mayD_zero HE.out.hm
    obtain ⟨ws, hws⟩ : ∃ ws, d.ws[n]? = some ws := ⟨_, List.getElem?_eq_getElem (by omega)⟩
    have HWS := Lib.hid hws
    have HIN := Lib.hid (List.all_eq_true.1 hall ws (List.mem_of_getElem? hws))
    obtain ⟨_, _, aw, cw, rfl, rfl⟩ := HE.out.rd.shape
    have hlw := RdOf.len HE.out.rd.w
    have hnW : (n : Int) < d.ws.length := by omega
    obtain ⟨b, r, rfl, hc1, hrw⟩ := RdOf.elem HE.out.rd.w hws
    obtain ⟨xa, xc, rfl⟩ := RdOf.shape hrw
    have hlx := RdOf.len hrw
    have hlxI : (ws.length : Int) ≤ 9223372036854775807 := by omega
    have hbelow := HE.out.below HM1.out
    have hcw := (hbelow.cell (World.block_lt_of_cell? w1 _ hc1)).trans hc1
    obtain ⟨y0, y1, y2⟩ := HE.out.di.below hbelow (Nat.le_refl _)
    have HRW := Lib.hid hrw
    clear hrw hws hall hbelow hc1 hwl
    go_wp2_with fail
    clear hcw y0 y1 y2
    go_loopw [36] (fun i wr => ∃ (k : Nat) (Mk : List Bool), k ≤ ws.length ∧ i = .int .i64 k ∧ MS w0 MB Mk wr ∧ LoopP d ts n (M.set n true) (Pk ws k) Mk) (fun i _ => ws.length - (intOf i).toNat)
    case atStart => exact ⟨0, _, by omega, rfl, HM1.out, LoopP.start (Pk_start ws)⟩
    case round =>
      obtain ⟨k, Mk, hk, rfl, hms, hlp⟩ := hrel
      have HMK := Lib.hid hms
      have HLP := Lib.hid hlp
      have hbelow := HE.out.below hms
      by_cases hlt : k < ws.length
      · obtain ⟨x, hx⟩ : ∃ x, ws[k]? = some x := ⟨_, List.getElem?_eq_getElem hlt⟩
        obtain ⟨b2, r2, rfl, hc2, hrx⟩ := RdOf.elem HRW.out hx
        obtain ⟨ya, yc, rfl⟩ := Reads.shape hrx
        have hlx2 := Reads.len hrx
        have hlyI : (x.length : Int) ≤ 9223372036854775807 := by omega
        have hcx := (hbelow.cell (World.block_lt_of_cell? w1 _ hc2)).trans hc2
        have HX := Lib.hid hx
        have HRX := Lib.hid hrx
        have HIX := Lib.hid (List.all_eq_true.1 HIN.out x (List.mem_of_getElem? hx))
        clear hms hlp hbelow hx hrx hc2
        go_wp2_with fail
        clear hcx
        go_loopw [42] (fun i wr => ∃ (p : Nat) (Mp : List Bool), p ≤ x.length ∧ i = .int .i64 p ∧ MS w0 MB Mp wr ∧ LoopP d ts n (M.set n true) (Pq ws k x p) Mp) (fun i _ => x.length - (intOf i).toNat)
        case atStart => exact ⟨0, _, by omega, rfl, HMK.out, HLP.out.weak fun y hy => by rcases hy with hy | hy; exact hy; simp at hy⟩
        case round =>
          obtain ⟨p, Mp, hp, rfl, hms, hlp⟩ := hrel
          have HMP := Lib.hid hms
          have HLQ := Lib.hid hlp
          have hbelow := HE.out.below hms
          by_cases hlt2 : p < x.length
          · obtain ⟨z, hz⟩ : ∃ z, x[p]? = some z := ⟨_, List.getElem?_eq_getElem hlt2⟩
            obtain ⟨b3, rfl, hc3⟩ := Reads.elem HRX.out hz
            unfold iV at hc3
            have hcz := (hbelow.cell (World.block_lt_of_cell? w1 _ hc3)).trans hc3
            obtain ⟨hz0, hz1⟩ := inB_iff.1 (List.all_eq_true.1 HIX.out z (List.mem_of_getElem? hz))
            obtain ⟨zn, rfl⟩ : ∃ zn : Nat, z = zn := ⟨z.toNat, by omega⟩
            have hfv := HE.out.fv hms
            have HZ := Lib.hid hz
            have hcall := IH.out Mp zn wr (Nat.le_trans (mu_mono hlp.len hlp.mono) HMU1.out) (by rw [hlp.len, List.length_set]; exact HL.out) (by omega) hms
            have HCALL := Lib.hid hcall
            have HEDGE := Lib.hid (show Edge d n zn from ⟨ws, x, HWS.out, List.mem_of_getElem? HX.out, List.mem_of_getElem? hz⟩)
            clear hms hlp hbelow hc3 hz hcall
            go_wp2_with fail
            refine HCALL.out.mono ?_
            rintro e w2 ⟨rfl, M2, hms2, hmp⟩
            have HM2 := Lib.hid hms2
            have HL2 := Lib.hid (HLQ.out.step (P' := Pq ws k x (p + 1)) HAL.out HEDGE.out hmp (fun y hy => Pq_next HZ.out hy))
            clear hms2 hmp hfv hcz HCALL
            go_wp2
            go_roundw
            case rel => exact ⟨p + 1, M2, by omega, by go_num, HM2.out, HL2.out⟩
            case measure => simp [intOf]; omega
          · have hpe : (x.length : Int) ≤ p := by omega
            have HL2 := Lib.hid (hlp.weak (P' := Pk ws (k + 1)) fun y hy => by have := Pk_next HX.out hy; rwa [show x.length = p by omega] at this)
            clear hms hlp hbelow
            go_wp2
            go_roundw
            case rel => exact ⟨k + 1, Mp, by omega, by go_num, HMP.out, HL2.out⟩
            case measure => simp [intOf]; omega
      · have hke : (ws.length : Int) ≤ k := by omega
        have HFIN := Lib.hid (hlp.end HAL.out (by have := HL.out; omega) (fun y hy => by
          obtain ⟨ws', w', h1, h2, h3⟩ := hy
          rw [HWS.out] at h1
          cases h1
          exact ⟨w', by rw [List.take_of_length_le (by omega)]; exact h2, h3⟩))
        clear hms hlp hbelow
        go_wp2
        go_end0
        exact ⟨rfl, Mk, HMK.out, HFIN.out⟩
end Go.Proofs.Ytgfgajekegfdgaa
