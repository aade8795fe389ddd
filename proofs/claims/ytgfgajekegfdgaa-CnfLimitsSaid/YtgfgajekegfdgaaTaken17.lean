/-
  Layer 17: the contract of cnf.Taken. Own work.
-/
import Derived.Test.YtgfgajekegfdgaaMeet17
import Derived.Deep.OwnRows
import Derived.Laws.EntriesVeiled
namespace Go.Proofs.Ytgfgajekegfdgaa
set_option linter.unusedVariables false
set_option linter.unusedSimpArgs false
open Go.RowKit

theorem bool_info : (Try.prog.info? 4).map (fun i => (i.zero, i.size, i.bytes)) = some (some (.bool false), 1, 1) := by kernel_rfl
/-- the numbers at which there is a truth -/
def idxs (M : List Bool) (k : Nat) : List Int := ((List.range k).filter fun i => decide (M[i]? = some true)).map fun i => ((i : Nat) : Int)
theorem idxs_snoc (M : List Bool) (k : Nat) : idxs M (k + 1) = idxs M k ++ if M[k]? = some true then [(k : Int)] else [] := by
  unfold idxs
  rw [List.range_succ, List.filter_append, List.map_append]
  by_cases h : M[k]? = some true <;> simp [List.filter_cons, h]
theorem idxs_len (M : List Bool) (k : Nat) : (idxs M k).length ≤ k := by
  unfold idxs
  rw [List.length_map]
  have := List.length_filter_le (fun i => decide (M[i]? = some true)) (List.range k)
  simpa using this
theorem mem_idxs {M : List Bool} {k : Nat} {n : Int} : n ∈ idxs M k ↔ ∃ i : Nat, i < k ∧ M[i]? = some true ∧ n = i := by
  unfold idxs
  simp only [List.mem_map, List.mem_filter, List.mem_range, decide_eq_true_eq]
  constructor
  · rintro ⟨i, ⟨h1, h2⟩, rfl⟩; exact ⟨i, h1, h2, rfl⟩
  · rintro ⟨i, h1, h2, rfl⟩; exact ⟨i, ⟨h1, h2⟩, rfl⟩
/-- the list is what is come to from the root -/
def IsTk (d : Dl) (ts : List Bool) (L : List Int) : Prop := ∃ M : List Bool, M.length = d.its.length ∧ L = idxs M d.its.length ∧ ∀ i : Nat, M[i]? = some true ↔ Rch d ts d.root.toNat i
theorem IsTk.one {d : Dl} {ts : List Bool} {L L' : List Int} (h : IsTk d ts L) (h' : IsTk d ts L') : L = L' := by
  obtain ⟨M, h1, rfl, h2⟩ := h
  obtain ⟨M', h1', rfl, h2'⟩ := h'
  unfold idxs
  congr 1
  refine List.filter_congr fun i _ => ?_
  have : M[i]? = some true ↔ M'[i]? = some true := (h2 i).trans (h2' i).symm
  rw [Bool.eq_iff_iff, decide_eq_true_eq, decide_eq_true_eq]
  exact this
theorem meet_all {d : Dl} {ts : List Bool} {n N : Nat} {M' : List Bool} (h : MeetP d ts n (List.replicate N false) M') : ∀ i : Nat, M'[i]? = some true ↔ Rch d ts n i := by
  have hno : ∀ i : Nat, ¬ (List.replicate N false)[i]? = some true := fun i hi => by
    rw [List.getElem?_replicate] at hi
    split at hi <;> simp at hi
  intro i
  constructor
  · intro hi
    rcases h.src i hi with h2 | h2
    · exact absurd h2 (hno i)
    · exact h2
  · intro hr
    refine hr (fun i => M'[i]? = some true) h.hit fun i y hi he ha => ?_
    rcases h.closed i hi with h2 | h2
    · exact absurd h2 (hno i)
    · exact h2 y he ha
theorem made_bools (N : Nat) : madeCells #[.bool false] N = ((List.replicate N false).map bV).toArray := by
  apply Array.ext
  · simp [madeCells]
  · intro i h1 h2
    simp [madeCells, bV, Nat.mod_one]
theorem below_setRowT {w w' : World} {B V : Nat} {cs : Array Value} (h : Below B w w') (hB : B ≤ V) : Below B w (w'.setRow V cs) :=
  ⟨h.os, h.tape, h.output, by simpa using h.size, fun k hk => (setRow_other w' V k cs (by omega)).trans (h.block k hk)⟩
theorem reads_own17 {α : Type} {w : World} {f : α → Value} {v : Value} {xs : List α} {base e : Nat} (h : w.ownsRow base e 1 v xs.length (xs.map f)) : Reads w f v xs := by
  have h0 := h
  obtain ⟨_, hc⟩ := h
  rcases hc with ⟨rfl, hn⟩ | ⟨g, cap, cur, rfl, _, hg, hn, hcm, _, _⟩
  · have : xs = [] := List.eq_nil_of_length_eq_zero hn
    subst this
    exact .inl ⟨rfl, rfl⟩
  · refine .inr ⟨⟨g, 0, none⟩, cap, rfl, hn, by unfold maxLen at hcm; exact hcm, fun j x hx => h0.cells (g := g) rfl j (f x) (by rw [List.getElem?_map, hx]; rfl)⟩
def TakenP (d : Dl) (ts : List Bool) (w : World) (e : Ending) (w' : World) : Prop := ∃ v L, e = .returned v ∧ Reads w' iV v L ∧ Below w.heap.size w w' ∧ (mayD d ≠ 0 ∧ L = [] ∨ mayD d = 0 ∧ IsTk d ts L)
set_option maxRecDepth 100000 in
set_option maxHeartbeats 8000000 in
theorem Taken_any (d : Dl) (ts : List Bool) (vi vw vt : Value) (w : World) (hr : RdD w vi vw d) (ht : Reads w bV vt ts) :
    Calls Try.prog 15 #[dealV vi vw d.root, vt] w (TakenP d ts w) := by
  obtain ⟨ai, ci, aw, cw, rfl, rfl⟩ := hr.shape
  obtain ⟨ta, tc, rfl⟩ := ht.shape
  have hb0 : Below w.heap.size w ((w.alloc (.cells #[.slice ai d.its.length ci, .slice aw d.ws.length cw, .int .i64 d.root] 25)).alloc (.cells #[.slice ta ts.length tc] 40)) := ((Below.refl w.heap.size w).alloc (Nat.le_refl _) _).alloc (by simp) _
  have hk : DlIn ((w.alloc (.cells #[.slice ai d.its.length ci, .slice aw d.ws.length cw, .int .i64 d.root] 25)).alloc (.cells #[.slice ta ts.length tc] 40)) w.heap.size (.slice ai d.its.length ci) (.slice aw d.ws.length cw) d.root := (DlIn.new w _ _ _).below ((Below.refl _ _).alloc (Nat.le_refl _) _) (Nat.le_refl _)
  have hT : ((w.alloc (.cells #[.slice ai d.its.length ci, .slice aw d.ws.length cw, .int .i64 d.root] 25)).alloc (.cells #[.slice ta ts.length tc] 40)).cell? ⟨w.heap.size + 1, 0, none⟩ = some (.slice ta ts.length tc) := by
    have := heap_alloc_new (w.alloc (.cells #[.slice ai d.its.length ci, .slice aw d.ws.length cw, .int .i64 d.root] 25)) (.cells #[.slice ta ts.length tc] 40)
    rw [cell_of_row _ (w.heap.size + 1) 0 _ _ (0, 0) (by simpa using this)]; rfl
  have HR := Lib.hid (hr.below hb0 (Nat.le_refl _))
  have HT := Lib.hid (ht.below hb0 (Nat.le_refl _))
  have HB0 := Lib.hid hb0
  have hmay := fun w' hr => May_any d (.slice ai d.its.length ci) (.slice aw d.ws.length cw) w' hr
  unfold dealV at hmay ⊢
  have HMAY := Lib.hid hmay
  clear hr ht hb0 hmay
  go_enter Try.func15, Try.ntmps15
  go_upto_region 1 with fail
  generalize (w.alloc (.cells #[.slice ai d.its.length ci, .slice aw d.ws.length cw, .int .i64 d.root] 25)).alloc (.cells #[.slice ta ts.length tc] 40) = w1 at hk hT HR HT HB0 ⊢
  obtain ⟨TRV, hTe⟩ : ∃ R, R = w.heap.size + 1 := ⟨_, rfl⟩
  rw [← hTe] at hT
  simp only [← hTe]
  clear hTe
  generalize w.heap.size = D at hk ⊢
  have HK := Lib.hid hk
  have HTV := Lib.hid hT
  obtain ⟨x0, x1, x2⟩ := hk
  clear hT
  go_wp2_with fail
  refine (HMAY.out _ HR.out).mono ?_
  rintro e w2 ⟨rfl, hb2⟩
  have HB2 := Lib.hid hb2
  clear x0 x1 x2 hb2
  by_cases hm : mayD d = 0
  case neg =>
    have HM := Lib.hid hm
    have hne : (mayD d != 0) = true := by simpa using hm
    clear hm
    go_wp2
    go_ret
    exact ⟨_, [], rfl, .inl ⟨rfl, rfl⟩, HB0.out.trans (HB2.out.mono HB0.out.size), .inl ⟨HM.out, rfl⟩⟩
  have HM := Lib.hid hm
  rw [hm]
  clear hm
  obtain ⟨h1024, ⟨hr0, hr1⟩, -, -⟩ := mayD_zero HM.out
  have hNI : (d.its.length : Int) ≤ 1024 := by omega
  have hmk := fun w => run_make_row' (P := Try.prog) 40 4 (.bool false) 1 Try.underlying40 bool_info rfl .i64 .i64 d.its.length (by omega) (by omega) w
  obtain ⟨x0, x1, x2⟩ := HK.out.below HB2.out (Nat.le_refl _)
  go_upto_region 5 with fail
  obtain ⟨MB, hMB⟩ : ∃ b, b = w2.heap.size := ⟨_, rfl⟩
  have hb3 : Below w2.heap.size w2 (((w2.alloc (.cells (madeCells #[.bool false] d.its.length) 4)).alloc (.cells #[.slice (some ⟨w2.heap.size, 0, none⟩) d.its.length d.its.length] 40)).alloc (.cells #[.nilFunc] 57)) := (((Below.refl w2.heap.size w2).alloc (Nat.le_refl _) _).alloc (by simp) _).alloc (by simp; omega) _
  have hM0 : (((w2.alloc (.cells (madeCells #[.bool false] d.its.length) 4)).alloc (.cells #[.slice (some ⟨w2.heap.size, 0, none⟩) d.its.length d.its.length] 40)).alloc (.cells #[.nilFunc] 57)).heap[w2.heap.size]? = some (.cells ((List.replicate d.its.length false).map bV).toArray 4 (0, 0)) := by
    rw [← made_bools]
    exact (Below.heap_alloc _ _ _ (by simp; omega)).trans ((Below.heap_alloc _ _ _ (by simp)).trans (heap_alloc_new w2 _))
  have hMV : (((w2.alloc (.cells (madeCells #[.bool false] d.its.length) 4)).alloc (.cells #[.slice (some ⟨w2.heap.size, 0, none⟩) d.its.length d.its.length] 40)).alloc (.cells #[.nilFunc] 57)).heap[w2.heap.size + 1]? = some (.cells #[.slice (some ⟨w2.heap.size, 0, none⟩) d.its.length d.its.length] 40 (0, 0)) := by
    have h := heap_alloc_new (w2.alloc (.cells (madeCells #[.bool false] d.its.length) 4)) (.cells #[.slice (some ⟨w2.heap.size, 0, none⟩) d.its.length d.its.length] 40)
    refine (Below.heap_alloc _ _ _ (by simp)).trans ?_
    simpa using h
  have hFV : (((w2.alloc (.cells (madeCells #[.bool false] d.its.length) 4)).alloc (.cells #[.slice (some ⟨w2.heap.size, 0, none⟩) d.its.length d.its.length] 40)).alloc (.cells #[.nilFunc] 57)).heap[w2.heap.size + 1 + 1]? = some (.cells #[.nilFunc] 57 (0, 0)) := by
    have h := heap_alloc_new ((w2.alloc (.cells (madeCells #[.bool false] d.its.length) 4)).alloc (.cells #[.slice (some ⟨w2.heap.size, 0, none⟩) d.its.length d.its.length] 40)) (.cells #[.nilFunc] 57)
    simpa using h
  generalize ((w2.alloc (.cells (madeCells #[.bool false] d.its.length) 4)).alloc (.cells #[.slice (some ⟨w2.heap.size, 0, none⟩) d.its.length d.its.length] 40)).alloc (.cells #[.nilFunc] 57) = w5 at hb3 hM0 hMV hFV ⊢
  rw [← hMB] at hM0 hMV hFV ⊢
  have HMB := Lib.hid hMB
  obtain ⟨FV, hFVe⟩ : ∃ b, b = MB + 1 + 1 := ⟨_, rfl⟩
  rw [← hFVe] at hFV ⊢
  obtain ⟨MV, hMVe⟩ : ∃ b, b = MB + 1 := ⟨_, rfl⟩
  rw [← hMVe] at hMV ⊢
  have HN1 := Lib.hid (show MV ≠ MB from by omega)
  have HN2 := Lib.hid (show FV ≠ MB from by omega)
  have HN3 := Lib.hid (show MV ≠ FV from by omega)
  have HGE := Lib.hid (show w2.heap.size ≤ MV ∧ w2.heap.size ≤ FV from by omega)
  clear hMB hFVe hMVe x0 x1 x2
  have hcf : w5.cell? ⟨FV, 0, none⟩ = some .nilFunc := by rw [cell_of_row w5 FV 0 _ _ (0, 0) hFV]; rfl
  have hff := frozen_of_row w5 FV 0 _ _ hFV
  have HB3 := Lib.hid (HB2.out.trans (hb3.mono HB2.out.size))
  have HM0 := Lib.hid hM0
  have HMV := Lib.hid hMV
  have HFV := Lib.hid hFV
  clear hb3 hM0 hMV hFV hmk
  obtain ⟨x0, x1, x2⟩ := HK.out.below HB3.out (Nat.le_refl _)
  go_upto_region 6 with fail
  have hms : MS (w5.setCell ⟨FV, 0, none⟩ (.func (.func 26) #[] #[.pointer (some ⟨MV, 0, none⟩), .pointer (some ⟨TRV, 0, none⟩), .pointer (some ⟨D, 0, none⟩), .pointer (some ⟨FV, 0, none⟩)])) MB (List.replicate d.its.length false) (w5.setCell ⟨FV, 0, none⟩ (.func (.func 26) #[] #[.pointer (some ⟨MV, 0, none⟩), .pointer (some ⟨TRV, 0, none⟩), .pointer (some ⟨D, 0, none⟩), .pointer (some ⟨FV, 0, none⟩)])) :=
    ⟨(heap_setCell_other w5 ⟨FV, 0, none⟩ MB _ (fun e => HN2.out e.symm)).trans HM0.out, ⟨rfl, rfl, rfl, Nat.le_refl _, fun _ _ _ => rfl⟩⟩
  have hbs : Below w1.heap.size w1 (w5.setCell ⟨FV, 0, none⟩ (.func (.func 26) #[] #[.pointer (some ⟨MV, 0, none⟩), .pointer (some ⟨TRV, 0, none⟩), .pointer (some ⟨D, 0, none⟩), .pointer (some ⟨FV, 0, none⟩)])) := HB3.out.setCell (by have := HGE.out.2; have := HB2.out.size; simp only; omega) _
  have hcm : (w5.setCell ⟨FV, 0, none⟩ (.func (.func 26) #[] #[.pointer (some ⟨MV, 0, none⟩), .pointer (some ⟨TRV, 0, none⟩), .pointer (some ⟨D, 0, none⟩), .pointer (some ⟨FV, 0, none⟩)])).cell? ⟨MV, 0, none⟩ = some (.slice (some ⟨MB, 0, none⟩) d.its.length d.its.length) := by
    rw [cell_of_row _ MV 0 _ _ (0, 0) ((heap_setCell_other w5 ⟨FV, 0, none⟩ MV _ HN3.out).trans HMV.out)]; rfl
  have hcfv : (w5.setCell ⟨FV, 0, none⟩ (.func (.func 26) #[] #[.pointer (some ⟨MV, 0, none⟩), .pointer (some ⟨TRV, 0, none⟩), .pointer (some ⟨D, 0, none⟩), .pointer (some ⟨FV, 0, none⟩)])).cell? ⟨FV, 0, none⟩ = some (.func (.func 26) #[] #[.pointer (some ⟨MV, 0, none⟩), .pointer (some ⟨TRV, 0, none⟩), .pointer (some ⟨D, 0, none⟩), .pointer (some ⟨FV, 0, none⟩)]) := by
    rw [cell_of_row _ FV 0 _ _ (0, 0) (heap_setCell_same w5 FV 0 _ _ _ HFV.out)]; rfl
  generalize w5.setCell ⟨FV, 0, none⟩ (.func (.func 26) #[] #[.pointer (some ⟨MV, 0, none⟩), .pointer (some ⟨TRV, 0, none⟩), .pointer (some ⟨D, 0, none⟩), .pointer (some ⟨FV, 0, none⟩)]) = w0 at hms hbs hcm hcfv ⊢
  have hE : TkEnv d ts w1 w0 MB MV TRV D FV (.slice ai d.its.length ci) (.slice aw d.ws.length cw) (.slice ta ts.length tc) := ⟨HR.out, HT.out, HK.out, HTV.out, hbs, by have := HB2.out.size; have := HMB.out; omega, hcm, HN1.out, hcfv, HN2.out, HM.out⟩
  obtain ⟨rn, hrn⟩ : ∃ rn : Nat, d.root = rn := ⟨d.root.toNat, by omega⟩
  have hcall := meet_any d ts w1 w0 MB MV TRV D FV _ _ _ hE (mu (List.replicate d.its.length false)) (List.replicate d.its.length false) rn w0 (Nat.le_refl _) (by simp) (by omega) hms
  have HE := Lib.hid hE
  have HCALL := Lib.hid hcall
  have HRN := Lib.hid hrn
  clear x0 x1 x2 hcf hff
  obtain ⟨x0, x1, x2⟩ := HK.out.below hbs (Nat.le_refl _)
  rw [hrn] at x2
  clear hms hE hcall hrn hbs hcm
  go_wp2_with fail
  refine HCALL.out.mono ?_
  rintro e w6 ⟨rfl, M, hms, hmp⟩
  have HMA := Lib.hid (meet_all hmp)
  have hml : M.length = d.its.length := by rw [hmp.len]; simp
  have HML := Lib.hid hml
  have HMS := Lib.hid hms
  have hmv := HE.out.met hms
  have HB6 := Lib.hid (HE.out.below hms)
  have HRD := Lib.hid (fun (i : Nat) b (hi : M[i]? = some b) (wr : World) (hb : Below w6.heap.size w6 wr) => (hb.cell (p := ⟨MB, i, none⟩) (World.block_lt_of_cell? w6 _ (hms.cell hi).1)).trans (hms.cell hi).1)
  clear hms hmp hcfv x0 x1 x2 HCALL hml
  go_wp2_with fail
  clear hmv
  go_loopw [7, 24] (fun v i wr => ∃ k : Nat, k ≤ d.its.length ∧ i = .int .i64 k ∧ wr.ownsRow w6.heap.size 3 1 v (idxs M k).length ((idxs M k).map iV) ∧ Below w6.heap.size w6 wr) (fun _ i _ => d.its.length - (intOf i).toNat)
  case atStart => exact ⟨0, by omega, rfl, World.ownsRow_nil _ _ _ _, Below.refl _ _⟩
  case round =>
    obtain ⟨k, hk, rfl, hown, hb⟩ := hrel
    have HB := Lib.hid hb
    have HS := Lib.hid (idxs_snoc M k)
    have hil := idxs_len M k
    by_cases hlt : k < d.its.length
    · obtain ⟨b, hkb⟩ : ∃ b, M[k]? = some b := ⟨_, List.getElem?_eq_getElem (by have := HML.out; omega)⟩
      have hc := HRD.out k b hkb _ hb
      have HKB := Lib.hid hkb
      generalize idxs M k = L at hown HS hil
      have hlI : L.length ≤ 1024 := by omega
      clear hkb hb
      cases b
      · have HOW := Lib.hid hown
        clear hown
        go_wp2
        go_roundw
        case rel => exact ⟨k + 1, by omega, by go_num, by rw [HS.out, if_neg (by rw [HKB.out]; simp), List.append_nil]; exact HOW.out, HB.out⟩
        case measure => simp [intOf]; omega
      · go_wp2_with (at_builtin
                     refine app1 rfl _ _ 39 3 rfl (.int .i64 0) 8 w6.heap.size L.length Try.underlying39 int_info rfl _ _ rfl hown rfl rfl (by omega) (by omega) HB.out.size ?_)
        intro v' w' ho' hg' hb'
        have HO := Lib.hid ho'
        have HB9 := Lib.hid (HB.out.trans hb')
        clear ho' hg' hb' hown hc
        go_wp2
        go_roundw
        case rel => exact ⟨k + 1, by omega, by go_num, by rw [HS.out, if_pos HKB.out, List.length_append, List.map_append]; exact HO.out, HB9.out⟩
        case measure => simp [intOf]; omega
    · have hke : k = d.its.length := by omega
      have hle : (d.its.length : Int) ≤ k := by omega
      rw [hke] at hown hil
      have hrd := reads_own17 hown
      have HRE := Lib.hid hrd
      obtain ⟨va, vc, hve⟩ := hrd.shape
      subst hve
      have HISD := Lib.hid (show IsTk d ts (idxs M d.its.length) from ⟨M, HML.out, rfl, by rw [show d.root.toNat = rn by have := HRN.out; omega]; exact HMA.out⟩)
      clear hown hrd hb hke HS
      go_wp2
      go_ret
      exact ⟨_, _, rfl, HRE.out, HB0.out.trans ((HB6.out.trans (HB.out.mono HB6.out.size)).mono HB0.out.size), .inr ⟨HM.out, HISD.out⟩⟩
end Go.Proofs.Ytgfgajekegfdgaa
