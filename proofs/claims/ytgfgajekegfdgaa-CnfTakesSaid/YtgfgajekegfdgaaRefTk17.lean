/-
  Layer 17: the contract of the answer's Taken: the rows are gone through until nothing is met anew. Own work.
-/
import Derived.Test.YtgfgajekegfdgaaRefRt17
namespace Go.Proofs.Ytgfgajekegfdgaa
set_option linter.unusedVariables false
set_option linter.unusedSimpArgs false
open Go.RowKit

def unB : Value → Bool
  | .bool b => b
  | _ => false
def marksW (w : World) (MB : Nat) : List Bool := match w.heap[MB]? with
  | some (.cells cs _ _) => cs.toList.map unB
  | _ => []
theorem marksW_is {w0 w : World} {MB : Nat} {M : List Bool} (h : MS w0 MB M w) : marksW w MB = M := by
  unfold marksW
  rw [h.1]
  show ((M.map bV).toArray.toList.map unB) = M
  rw [List.map_map]
  exact (List.map_congr_left (fun _ _ => rfl)).trans (List.map_id M)
def agN : Value → Nat
  | .bool true => 1
  | _ => 0
def frm (mk : Bool) (n : Int) (ws : List (List Int)) : Bool := ws.any fun w => mk && hasB w n
def frmAll (d : Dl) (M : List Bool) (n : Int) (q : Nat) : Bool := (List.range q).any fun k => frm (M.getD k false) n (d.ws.getD k [])
def wants1 (d : Dl) (M : List Bool) (n : Nat) : Bool := ((n : Int) == d.root) || frmAll d M n d.its.length
theorem frm_snoc {mk : Bool} {n : Int} {ws : List (List Int)} {p : Nat} {x : List Int} (h : ws[p]? = some x) : frm mk n (ws.take (p + 1)) = (frm mk n (ws.take p) || (mk && hasB x n)) := by
  unfold frm
  rw [take_snoc _ p x h, List.any_append]; simp
theorem frmAll_snoc {d : Dl} {M : List Bool} {n : Int} {k : Nat} {b : Bool} {ws : List (List Int)} (hm : M[k]? = some b) (hw : d.ws[k]? = some ws) : frmAll d M n (k + 1) = (frmAll d M n k || frm b n ws) := by
  unfold frmAll
  rw [List.range_succ, List.any_append, List.any_cons, List.any_nil, Bool.or_false, List.getD_eq_getElem?_getD, hm, List.getD_eq_getElem?_getD, hw]; rfl
def Sound (d : Dl) (ts : List Bool) (M : List Bool) : Prop := M.length = d.its.length ∧ ∀ i : Nat, M[i]? = some true → Rch d ts d.root.toNat i
def Seen (d : Dl) (ts : List Bool) (M : List Bool) (k : Nat) : Prop := ∀ i, i < k → M[i]? = some true ∨ ¬ alw ts i ∨ wants1 d M i = false
theorem wants_rch {d : Dl} {ts M : List Bool} {n : Nat} (hm : mayD d = 0) (hs : Sound d ts M) (ha : alw ts n) (hw : wants1 d M n = true) : Rch d ts d.root.toNat n := by
  obtain ⟨-, ⟨hr0, hr1⟩, hlen, -⟩ := mayD_zero hm
  unfold wants1 at hw
  rcases Bool.or_eq_true _ _ ▸ hw with h | h
  · have h1 : (n : Int) = d.root := eq_of_beq h
    have h2 : d.root.toNat = n := by omega
    rw [h2]; exact Rch.refl ha
  · obtain ⟨k, hk, h1⟩ := List.any_eq_true.1 h
    obtain ⟨w, hw1, h2⟩ := List.any_eq_true.1 h1
    rw [Bool.and_eq_true, hasB_iff] at h2
    have hMk : M[k]? = some true := by
      have := h2.1
      rw [List.getD_eq_getElem?_getD] at this
      cases hM : M[k]? with
      | none => rw [hM] at this; cases this
      | some b => rw [hM] at this; exact congrArg some this
    rw [List.getD_eq_getElem?_getD] at hw1
    cases hws : d.ws[k]? with
    | none => rw [hws] at hw1; cases hw1
    | some ws =>
      rw [hws] at hw1
      exact (hs.2 k hMk).step ⟨ws, w, hws, hw1, h2.2⟩ ha
theorem all_seen {d : Dl} {ts M : List Bool} (hm : mayD d = 0) (hs : Sound d ts M) (hc : Seen d ts M d.its.length) : IsTk d ts (idxs M d.its.length) := by
  obtain ⟨-, ⟨hr0, hr1⟩, hlen, -⟩ := mayD_zero hm
  refine ⟨M, hs.1, rfl, fun i => ⟨hs.2 i, fun h => h (fun i => M[i]? = some true) (fun ha => ?_) (fun i y hi he ha => ?_)⟩⟩
  · rcases hc d.root.toNat (by omega) with h1 | h1 | h1
    · exact h1
    · exact absurd ha h1
    · unfold wants1 at h1
      rw [Bool.or_eq_false_iff, Int.toNat_of_nonneg hr0] at h1
      simp at h1
  · obtain ⟨ws, w, hws, hw, hy⟩ := he
    have hp := wants_pos hm hws hw _ hy
    have hil : i < d.its.length := by rw [← hs.1]; exact (List.getElem?_eq_some_iff.1 hi).1
    rcases hc y (by omega) with h1 | h1 | h1
    · exact h1
    · exact absurd ha h1
    · unfold wants1 at h1
      rw [Bool.or_eq_false_iff] at h1
      have h2 := List.any_eq_false.1 h1.2 i (List.mem_range.2 hil)
      refine absurd (List.any_eq_true.2 ⟨w, ?_, ?_⟩) h2
      · rw [List.getD_eq_getElem?_getD, hws]; exact hw
      · rw [Bool.and_eq_true, hasB_iff, List.getD_eq_getElem?_getD, hi]; exact ⟨rfl, hy⟩
theorem Sound.set {d : Dl} {ts M : List Bool} {k : Nat} (h : Sound d ts M) (hr : Rch d ts d.root.toNat k) : Sound d ts (M.set k true) := by
  refine ⟨by rw [List.length_set]; exact h.1, fun i hi => ?_⟩
  rw [List.getElem?_set] at hi
  by_cases e : k = i
  · subst e; exact hr
  · rw [if_neg e] at hi; exact h.2 i hi
theorem Sound.none (d : Dl) (ts : List Bool) : Sound d ts (List.replicate d.its.length false) := by
  refine ⟨by simp, fun i hi => ?_⟩
  rw [List.getElem?_replicate] at hi
  split at hi <;> simp at hi
theorem Seen.next {d : Dl} {ts M : List Bool} {k : Nat} (h : Seen d ts M k) (hk : M[k]? = some true ∨ ¬ alw ts k ∨ wants1 d M k = false) : Seen d ts M (k + 1) := by
  intro i hi
  by_cases e : i = k
  · subst e; exact hk
  · exact h i (by omega)
/-- a pass over the items, at item k: b: was one met anew? -/
structure PassI (d : Dl) (ts M0 : List Bool) (b : Bool) (M : List Bool) (k : Nat) : Prop where
  snd : Sound d ts M
  less : b = true → mu M < mu M0
  same : b = false → M = M0 ∧ Seen d ts M k
section
variable {d : Dl} {ts M0 M : List Bool} {b : Bool} {k : Nat}
theorem PassI.le (h : PassI d ts M0 b M k) : mu M ≤ mu M0 := by
  cases b
  · rw [(h.same rfl).1]; exact Nat.le_refl _
  · exact Nat.le_of_lt (h.less rfl)
theorem PassI.skip (h : PassI d ts M0 b M k) (hk : M[k]? = some true ∨ ¬ alw ts k ∨ wants1 d M k = false) : PassI d ts M0 b M (k + 1) :=
  ⟨h.snd, h.less, fun hb => ⟨(h.same hb).1, (h.same hb).2.next hk⟩⟩
theorem PassI.met (h : PassI d ts M0 b M k) (hm : mayD d = 0) (hk : M[k]? = some false) (ha : alw ts k) (hw : wants1 d M k = true) : PassI d ts M0 true (M.set k true) (k + 1) :=
  ⟨h.snd.set (wants_rch hm h.snd ha hw), fun _ => Nat.lt_of_lt_of_le (mu_set (List.getElem?_eq_some_iff.1 hk).1 hk) h.le, fun hb => by cases hb⟩
end
theorem alw_not {ts : List Bool} {k : Nat} (h : ts[k]? = some false) : ¬ alw ts k := by unfold alw; rw [h]; simp
theorem alw_out {ts : List Bool} {k : Nat} (h : ts.length ≤ k) : ¬ alw ts k := by unfold alw; rw [List.getElem?_eq_none h]; simp
set_option maxRecDepth 100000 in
set_option maxHeartbeats 8000000 in
theorem refTaken_any (d : Dl) (ts : List Bool) (vi vw vt : Value) (w : World) (hr : RdD w vi vw d) (ht : Reads w bV vt ts) :
    Calls Try.prog 16 #[dealV vi vw d.root, vt] w (TakenP d ts w) := by
  obtain ⟨ai, ci, aw, cw, rfl, rfl⟩ := hr.shape
  obtain ⟨ta, tc, rfl⟩ := ht.shape
  have htl := ht.len
  have htlI : (ts.length : Int) ≤ 9223372036854775807 := by omega
  have hb0 : Below w.heap.size w (w.alloc (.cells #[.slice ai d.its.length ci, .slice aw d.ws.length cw, .int .i64 d.root] 25)) := (Below.refl w.heap.size w).alloc (Nat.le_refl _) _
  have hk := DlIn.new w (.slice ai d.its.length ci) (.slice aw d.ws.length cw) d.root
  have HR := Lib.hid (hr.below hb0 (Nat.le_refl _))
  have HT := Lib.hid (ht.below hb0 (Nat.le_refl _))
  have HB0 := Lib.hid hb0
  have hm2 := fun w' hr => refMay_any d (.slice ai d.its.length ci) (.slice aw d.ws.length cw) w' hr
  unfold dealV at hm2 ⊢
  have HM2 := Lib.hid hm2
  clear hr ht hb0 hm2
  go_enter Try.func16, Try.ntmps16
  go_upto_region 1 with fail
  generalize w.alloc (.cells #[.slice ai d.its.length ci, .slice aw d.ws.length cw, .int .i64 d.root] 25) = w1 at hk HR HT HB0 ⊢
  generalize w.heap.size = D at hk ⊢
  have HK := Lib.hid hk
  obtain ⟨x0, x1, x2⟩ := hk
  go_wp2_with fail
  refine (HM2.out _ HR.out).mono ?_
  rintro e w2 ⟨rfl, hb2⟩
  have HB2 := Lib.hid hb2
  clear x0 x1 x2 hb2
  by_cases hm : mayD d = 0
  case neg =>
    have HM := Lib.hid hm
    have hne : (mayD d != 0) = true := by simpa using hm
    clear hm
    go_wp2
    go_ret
    exact ⟨_, [], rfl, .inl ⟨rfl, rfl⟩, HB0.out.trans (HB2.out.mono HB0.out.size), .inl ⟨HM.out, rfl⟩⟩
  have HM := Lib.hid hm
  rw [hm]
  obtain ⟨h1024, ⟨hr0, hr1⟩, hwl, -⟩ := mayD_zero hm
  clear hm
  have hNI : (d.its.length : Int) ≤ 1024 := by omega
  have hmk := fun w => run_make_row' (P := Try.prog) 40 4 (.bool false) 1 Try.underlying40 bool_info rfl .i64 .i64 d.its.length (by omega) (by omega) w
  obtain ⟨x0, x1, x2⟩ := HK.out.below HB2.out (Nat.le_refl _)
  go_upto_region 4 with fail
  obtain ⟨MB, hMB⟩ : ∃ b, b = w2.heap.size := ⟨_, rfl⟩
  have hb3 : Below w2.heap.size w2 (w2.alloc (.cells (madeCells #[.bool false] d.its.length) 4)) := (Below.refl w2.heap.size w2).alloc (Nat.le_refl _) _
  have hM0 : (w2.alloc (.cells (madeCells #[.bool false] d.its.length) 4)).heap[w2.heap.size]? = some (.cells ((List.replicate d.its.length false).map bV).toArray 4 (0, 0)) := by
    rw [← made_bools]
    exact heap_alloc_new w2 _
  generalize w2.alloc (.cells (madeCells #[.bool false] d.its.length) 4) = w0 at hb3 hM0 ⊢
  rw [← hMB] at hM0 ⊢
  have HBZ := Lib.hid (HB2.out.trans (hb3.mono HB2.out.size))
  have HMB := Lib.hid (show w1.heap.size ≤ MB by have := HB2.out.size; omega)
  have HMS0 := Lib.hid (show MS w0 MB (List.replicate d.its.length false) w0 from ⟨hM0, ⟨rfl, rfl, rfl, Nat.le_refl _, fun _ _ _ => rfl⟩⟩)
  have HLOW := Lib.hid (fun (M : List Bool) (wr : World) (h : MS w0 MB M wr) =>
    have hb : Below w1.heap.size w1 wr := HBZ.out.grown h.2 HBZ.out.size (fun k hk => by cases hk; exact HMB.out)
    (show Below w1.heap.size w1 wr ∧ DlIn wr D (.slice ai d.its.length ci) (.slice aw d.ws.length cw) d.root ∧ RdD wr (.slice ai d.its.length ci) (.slice aw d.ws.length cw) d ∧ Reads wr bV (.slice ta ts.length tc) ts from
      ⟨hb, HK.out.below hb (Nat.le_refl _), HR.out.below hb (Nat.le_refl _), HT.out.below hb (Nat.le_refl _)⟩))
  clear hb3 hM0 hmk x0 x1 x2 hMB HR HT HK HM2
  go_wp2_with fail
  go_loopw [6] (fun ag wr => ∃ (b : Bool) (M : List Bool), ag = .bool b ∧ MS w0 MB M wr ∧ Sound d ts M ∧ (b = false → Seen d ts M d.its.length)) (fun ag wr => mu (marksW wr MB) + agN ag)
  case atStart => exact ⟨true, _, rfl, HMS0.out, Sound.none d ts, fun h => by cases h⟩
  case round =>
    obtain ⟨b, M0, rfl, hms, hsnd, hseen⟩ := hrel
    have HMS := Lib.hid hms
    have HSND := Lib.hid hsnd
    have HSEEN := Lib.hid hseen
    have HMW := Lib.hid (marksW_is hms)
    have hNl := hsnd.1
    clear hseen hsnd
    cases b
    · obtain ⟨hb6, -⟩ := HLOW.out _ _ hms
      have HB6 := Lib.hid hb6
      have HRD := Lib.hid (fun (i : Nat) b (hi : M0[i]? = some b) (wz : World) (hb : Below wr.heap.size wr wz) => (hb.cell (p := ⟨MB, i, none⟩) (World.block_lt_of_cell? wr _ (hms.cell hi).1)).trans (hms.cell hi).1)
      clear hms hb6
      go_wp2_with fail
      generalize wr = w6 at HB6 HRD HMS HMW ⊢
      go_loopw [12, 87] (fun v i wr => ∃ k : Nat, k ≤ d.its.length ∧ i = .int .i64 k ∧ wr.ownsRow w6.heap.size 3 1 v (idxs M0 k).length ((idxs M0 k).map iV) ∧ Below w6.heap.size w6 wr) (fun _ i _ => d.its.length - (intOf i).toNat)
      case atStart => exact ⟨0, by omega, rfl, World.ownsRow_nil _ _ _ _, Below.refl _ _⟩
      case round =>
        obtain ⟨k, hk, rfl, hown, hb⟩ := hrel
        have HB := Lib.hid hb
        have HS := Lib.hid (idxs_snoc M0 k)
        have hil := idxs_len M0 k
        by_cases hlt : k < d.its.length
        · obtain ⟨b, hkb⟩ : ∃ b, M0[k]? = some b := ⟨_, List.getElem?_eq_getElem (by omega)⟩
          have hc := HRD.out k b hkb _ hb
          have HKB := Lib.hid hkb
          generalize idxs M0 k = L at hown HS hil
          have hlI : L.length ≤ 1024 := by omega
          clear hkb hb
          cases b
          · have HOW := Lib.hid hown
            clear hown
            go_wp2
            go_roundw
            case rel => exact ⟨k + 1, by omega, by go_num, by rw [HS.out, if_neg (by rw [HKB.out]; simp), List.append_nil]; exact HOW.out, HB.out⟩
            case measure => simp [intOf]; omega
          · go_wp2_with (at_builtin
                         refine app1 rfl _ _ 39 3 rfl (.int .i64 0) 8 w6.heap.size L.length Try.underlying39 int_info rfl _ _ rfl hown rfl rfl (by omega) (by omega) HB.out.size ?_)
            intro v' w' ho' hg' hb'
            have HO := Lib.hid ho'
            have HB9 := Lib.hid (HB.out.trans hb')
            clear ho' hg' hb' hown hc
            go_wp2
            go_roundw
            case rel => exact ⟨k + 1, by omega, by go_num, by rw [HS.out, if_pos HKB.out, List.length_append, List.map_append]; exact HO.out, HB9.out⟩
            case measure => simp [intOf]; omega
        · have hke : k = d.its.length := by omega
          have hle : (d.its.length : Int) ≤ k := by omega
          rw [hke] at hown hil
          have hrd := reads_own17 hown
          have HRE := Lib.hid hrd
          obtain ⟨va, vc, hve⟩ := hrd.shape
          subst hve
          have HISD := Lib.hid (all_seen HM.out HSND.out (HSEEN.out trivial))
          clear hown hrd hb hke HS
          go_wp2
          go_ret
          exact ⟨_, _, rfl, HRE.out, HB0.out.trans ((HB6.out.trans (HB.out.mono HB6.out.size)).mono HB0.out.size), .inr ⟨HM.out, HISD.out⟩⟩
    · obtain ⟨-, ⟨x0, x1, x2⟩, -⟩ := HLOW.out _ _ hms
      clear hms
      go_wp2_with fail
      clear x0 x1 x2
      go_loopw [6, 26] (fun ag i wr => ∃ (b : Bool) (M : List Bool) (k : Nat), k ≤ d.its.length ∧ i = .int .i64 k ∧ ag = .bool b ∧ MS w0 MB M wr ∧ PassI d ts M0 b M k) (fun _ i _ => d.its.length - (intOf i).toNat)
      case atStart => exact ⟨false, M0, 0, by omega, rfl, rfl, HMS.out, ⟨HSND.out, (fun h => by cases h), fun _ => ⟨rfl, fun i hi => absurd hi (by omega)⟩⟩⟩
      case round =>
        obtain ⟨b, M, k, hkl, rfl, rfl, hms, hp⟩ := hrel
        have HMSM := Lib.hid hms
        have HP := Lib.hid hp
        have hNM := hp.snd.1
        obtain ⟨-, ⟨x0, x1, x2⟩, hrd, htr⟩ := HLOW.out _ _ hms
        clear hp
        by_cases hlt : k < d.its.length
        · obtain ⟨bk, hbk⟩ : ∃ bk, M[k]? = some bk := ⟨_, List.getElem?_eq_getElem (by omega)⟩
          obtain ⟨hck, hfk⟩ := hms.cell hbk
          have HBK := Lib.hid hbk
          cases bk
          case true =>
            clear hbk hms hrd htr
            go_wp2
            go_roundw
            case rel => exact ⟨b, M, k + 1, by omega, by go_num, rfl, HMSM.out, HP.out.skip (.inl HBK.out)⟩
            case measure => simp [intOf]; omega
          by_cases hkt : k < ts.length
          case neg =>
            have hge : (ts.length : Int) ≤ k := by omega
            have HNA := Lib.hid (alw_out (ts := ts) (k := k) (by omega))
            clear hbk hms hrd htr hkt
            go_wp2
            go_roundw
            case rel => exact ⟨b, M, k + 1, by omega, by go_num, rfl, HMSM.out, HP.out.skip (.inr (.inl HNA.out))⟩
            case measure => simp [intOf]; omega
          obtain ⟨tk, htk⟩ : ∃ tk, ts[k]? = some tk := ⟨_, List.getElem?_eq_getElem hkt⟩
          obtain ⟨ab, hta, hct⟩ := htr.elem htk
          subst hta
          unfold bV at hct
          have HTK := Lib.hid htk
          have hktI : decide ((ts.length : Int) ≤ k) = false := by simpa using hkt
          cases tk
          case false =>
            clear hbk hms hrd htr htk
            go_wp2
            go_roundw
            case rel => exact ⟨b, M, k + 1, by omega, by go_num, rfl, HMSM.out, HP.out.skip (.inr (.inl (alw_not HTK.out)))⟩
            case measure => simp [intOf]; omega
          have HRD := Lib.hid hrd
          have HCM := Lib.hid (fun (q : Nat) bq (hq : M[q]? = some bq) => (hms.cell hq).1)
          have HW1 := Lib.hid (show wants1 d M k = (((k : Int) == d.root) || frmAll d M k d.its.length) from rfl)
          clear hbk hms hrd htr htk
          generalize hcc : ((k : Int) == d.root) = c at HW1
          have HCC := Lib.hid hcc
          go_wp2_with fail
          clear hcc
          go_loop [8, 53] (fun ok i => ∃ q : Nat, q ≤ d.its.length ∧ i = .int .i64 q ∧ ok = .bool (c || frmAll d M k q)) (fun _ i => d.its.length - (intOf i).toNat)
          case atStart => exact ⟨0, by omega, rfl, by simp [frmAll]⟩
          case round =>
            obtain ⟨q, hql, rfl, rfl⟩ := hrel
            by_cases hltq : q < d.its.length
            · obtain ⟨bq, hbq⟩ : ∃ bq, M[q]? = some bq := ⟨_, List.getElem?_eq_getElem (by omega)⟩
              obtain ⟨ws, hws⟩ : ∃ ws, d.ws[q]? = some ws := ⟨_, List.getElem?_eq_getElem (by omega)⟩
              have hcq := HCM.out q bq hbq
              have hS2 : (c || frmAll d M k (q + 1)) = ((c || frmAll d M k q) || frm bq k ws) := by rw [frmAll_snoc hbq hws, Bool.or_assoc]
              generalize (c || frmAll d M k q) = c2 at hS2 ⊢
              have HS2 := Lib.hid hS2
              obtain ⟨wb, r, hwb, hcw, hrw⟩ := RdOf.elem HRD.out.w hws
              subst hwb
              obtain ⟨wa, wc, rfl⟩ := RdOf.shape hrw
              have hwsl := RdOf.len hrw
              have hwsI : (ws.length : Int) ≤ 9223372036854775807 := by omega
              have hqw : (q : Int) < d.ws.length := by omega
              have HRW := Lib.hid hrw
              clear hbq hws hrw hS2
              go_wp2_with fail
              clear hcw
              go_loop [8, 62] (fun ok i => ∃ p : Nat, p ≤ ws.length ∧ i = .int .i64 p ∧ ok = .bool (c2 || frm bq k (ws.take p))) (fun _ i => ws.length - (intOf i).toNat)
              case atStart => exact ⟨0, by omega, rfl, by simp [frm]⟩
              case round =>
                obtain ⟨p, hpl, rfl, rfl⟩ := hrel
                by_cases hltp : p < ws.length
                · obtain ⟨x, hx⟩ : ∃ x, ws[p]? = some x := ⟨_, List.getElem?_eq_getElem hltp⟩
                  obtain ⟨xb, r, hxb, hcx, hrx⟩ := RdOf.elem HRW.out hx
                  subst hxb
                  obtain ⟨xa, xc, rfl⟩ := Reads.shape hrx
                  have hS3 : (c2 || frm bq k (ws.take (p + 1))) = ((c2 || frm bq k (ws.take p)) || (bq && hasB x k)) := by rw [frm_snoc hx, Bool.or_assoc]
                  generalize (c2 || frm bq k (ws.take p)) = c3 at hS3 ⊢
                  have hop := has_any _ x (k : Int) wr hrx
                  generalize hasB x (k : Int) = hb at hop hS3
                  have HOP := Lib.hid hop
                  have HS3 := Lib.hid hS3
                  clear hx hrx hS3 hop
                  cases c3
                  · cases bq
                    · go_wp2
                      exact ⟨⟨p + 1, by omega, by go_num, by rw [HS3.out]; rfl⟩, by simp [intOf]; omega⟩
                    · go_wp2_with fail
                      refine HOP.out.mono ?_
                      rintro e w4 ⟨rfl, rfl⟩
                      go_wp2
                      exact ⟨⟨p + 1, by omega, by go_num, by rw [HS3.out]; rfl⟩, by simp [intOf]; omega⟩
                  · go_wp2
                    exact ⟨⟨p + 1, by omega, by go_num, by rw [HS3.out]; rfl⟩, by simp [intOf]; omega⟩
                · have hple : (ws.length : Int) ≤ p := by omega
                  have htk : ws.take p = ws := List.take_of_length_le (by omega)
                  rw [htk]
                  clear htk
                  go_wp2
                  go_roundw
                  case rel => first | exact ⟨q + 1, by omega, by go_num, by rw [HS2.out]⟩ | ((repeat apply Exists.intro); exact ⟨⟨q + 1, by omega, by go_num, by rw [HS2.out]⟩, rfl, rfl, rfl, rfl⟩)
                  case measure => simp [intOf]; omega
            · have hqle : (d.its.length : Int) ≤ q := by omega
              have hqe : q = d.its.length := by omega
              rw [hqe, ← HW1.out]
              generalize hwv : wants1 d M k = wv
              have HWV := Lib.hid hwv
              clear hqe hwv
              cases wv
              · go_wp2
                go_roundw
                case rel => exact ⟨b, M, k + 1, by omega, by go_num, rfl, HMSM.out, HP.out.skip (.inr (.inr HWV.out))⟩
                case measure => simp [intOf]; omega
              · go_wp2
                go_roundw
                case rel => exact ⟨true, M.set k true, k + 1, by omega, by go_num, rfl, HMSM.out.store k, HP.out.met HM.out HBK.out HTK.out HWV.out⟩
                case measure => simp [intOf]; omega
        · have hke : k = d.its.length := by omega
          have hle : (d.its.length : Int) ≤ k := by omega
          have HKE := Lib.hid hke
          clear hms hrd htr hke
          have HMW2 := Lib.hid (marksW_is HMSM.out)
          have HLT := Lib.hid (show mu M + agN (.bool b) < mu M0 + 1 by
            cases b
            · rw [(HP.out.same rfl).1]; simp [agN]
            · have := HP.out.less rfl
              simp [agN]; omega)
          go_wp2
          go_roundw
          case rel => exact ⟨b, M, rfl, HMSM.out, HP.out.snd, fun hb => by have := (HP.out.same hb).2; rw [HKE.out] at this; exact this⟩
          case measure =>
            have h1 := HLT.out
            rw [HMW2.out, HMW.out]
            simpa [agN] using h1
end Go.Proofs.Ytgfgajekegfdgaa
