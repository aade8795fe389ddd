/-
  Layer 25: diff.Join's closure (an edit of one row alone). Own work.
-/
import Derived.Test.YtoibanffaebllaaMeetA25
import Derived.Test.YtoibanffaebllaaMeetE25
namespace Go.Proofs.Ytoibanffaebllaa
set_option linter.unusedVariables false
set_option linter.unusedSimpArgs false
open Go.RowKit

def AddJ (L : Nat) (w0 : World) (out : List Ed) (f : Bool) (r : Option Nat) (w : World) (e : Ending) (w' : World) : Prop :=
  e = .returned (.tuple #[]) ∧ ∃ r', GI L (L + 2) mkE 50 18 w0 out.length (rowE out) r' w' ∧ FitAt L f w' ∧ Stp (L + 2) r w r' w'
theorem ed_news {w : World} {e : Ed} : ∀ (j : Nat) u, (edCells e)[j]? = some u → (w.alloc (.cells #[.string e.key.g, .string e.key.a, .string e.key.t, .string e.key.c, .bool e.had, .bool e.has, .string e.old.g, .string e.old.a, .string e.old.t, .string e.old.c, .string e.old.v, .int .i64 e.old.sc, .string e.new.g, .string e.new.a, .string e.new.t, .string e.new.c, .string e.new.v, .int .i64 e.new.sc] 50)).cell? ((⟨w.heap.size, 0, none⟩ : Addr).add j) = some u := fun j u h => EdR.new w e j u h
set_option maxRecDepth 100000 in
set_option maxHeartbeats 4000000 in
theorem meetJ_left (HA : Nat) (q : Value) (L : Nat) (w0 w : World) (out : List Ed) (r : Option Nat) (f : Bool)
    (hgi : GI L (L + 2) mkE 50 18 w0 out.length (rowE out) r w) (hfit : FitAt L f w) (hlen : out.length ≤ 2000000) (vA : Value) (lA : List Ed) (pA : Ed) (nA : Nat) (hpA : lA[nA]? = some pA) (hnA : nA ≤ 1000000) (hcA : w0.cell? ⟨HA, 0, none⟩ = some vA) (hrA : RdE w0 vA lA) :
    Calls Try.prog 41 #[.int .i64 nA, .int .i64 (-1), .pointer (some ⟨L, 0, none⟩), .pointer (some ⟨HA, 0, none⟩), q, .pointer (some ⟨L + 1, 0, none⟩)] w (AddJ L w0 (out ++ [pA]) f r w) := by
  have hbw := hgi.b
  have hsz := hgi.sz
  obtain ⟨paA, pcA, rfl⟩ := hrA.shape
  obtain ⟨bA, rfl, _, hl1A, hl2A, hqA⟩ := hrA.elem hpA
  have HPRA := Lib.hid (RdE.atR hqA hpA (Below.refl w0.heap.size w0) (Nat.le_refl _))
  have hilA : (nA : Int) < lA.length := by have := (List.getElem?_eq_some_iff.1 hpA).1; omega
  have hn0A : (0 : Int) ≤ nA := by omega
  have hnatA : nA < lA.length := (List.getElem?_eq_some_iff.1 hpA).1
  have HLTA := Lib.hid (show HA < w0.heap.size from World.block_lt_of_cell? w0 _ hcA)
  have h0A : w.cell? ⟨HA, 0, none⟩ = some (.slice (some bA) lA.length pcA) := (hbw.cell (p := ⟨HA, 0, none⟩) (by have := HLTA.out; simp only; omega)).trans hcA
  clear hqA hrA hcA hpA
  obtain ⟨v, hv, hown, hrv⟩ := hgi.row
  have hbs := hgi.bs
  have hbel : Below L w w.drew := (Below.refl _ _).drew
  have hcL : w.cell? ⟨L, 0, none⟩ = some v := by rw [cell_of_row w L 0 _ _ (0, 0) hv]; rfl
  have hcL2 : (w.alloc (.cells #[.string pA.key.g, .string pA.key.a, .string pA.key.t, .string pA.key.c, .bool pA.had, .bool pA.has, .string pA.old.g, .string pA.old.a, .string pA.old.t, .string pA.old.c, .string pA.old.v, .int .i64 pA.old.sc, .string pA.new.g, .string pA.new.a, .string pA.new.t, .string pA.new.c, .string pA.new.v, .int .i64 pA.new.sc] 50)).cell? ⟨L, 0, none⟩ = some v := (((Below.refl w.heap.size w).alloc (Nat.le_refl _) _).cell (p := ⟨L, 0, none⟩) (by simp only; omega)).trans hcL
  have HKC := Lib.hid (fun (w' : World) (hb : Below L w w') => show w'.cell? ⟨HA, 0, none⟩ = some (.slice (some bA) lA.length pcA) ∧ Below L w w' from
    ⟨(hb.cell (p := ⟨HA, 0, none⟩) (by have := HLTA.out; simp only; omega)).trans h0A, hb⟩)
  have HPI := Lib.hid (fun (w' : World) (hb : Below L w w') => show EdR w' (bA.add (nA * 18)) pA from HPRA.out.below (hbw.trans hb) (by omega))
  have HGI := Lib.hid hgi
  have HFI := Lib.hid hfit
  have HV := Lib.hid hv
  have HRV := Lib.hid hrv
  have HOWN := Lib.hid hown
  have HLE := Lib.hid (show ∀ k, v.ownBlock = some k → L + 2 ≤ k from fun k hk => (hown.lt k hk).1)
  have HZ := Lib.hid hbs
  have HLN := Lib.hid hlen
  clear hgi hfit hv hrv hown hbw h0A hsz hbs hlen
  go_enter Try.func41, Try.ntmps41
  go_upto_region 6 with fail
  refine wp_region_held_drew (S := (fun w' => w'.cell? ⟨HA, 0, none⟩ = some (.slice (some bA) lA.length pcA) ∧ Below L w w')) (by kernel_rfl) (by (try dsimp only); exact HKC.out _ hbel) (fun hHeld => ?_)
  refine wpAnyH_take (i := 1) (v := ?_) (by (simp only [List.getElem?_toArray, List.getElem?_cons_succ, List.getElem?_cons_zero]; rfl)) (by kernel_rfl) (by kernel_rfl) (by kernel_rfl) (by intro _ _ _ h; exact h) (Or.inl ⟨by rfl, ?_⟩) (by assumption) ?_
  rotate_left
  · (intro w hSw; (try dsimp only at hSw); go_simp; try (with_reducible rfl))
  simp only [Act.put, List.setIfInBounds_toArray, List.set_cons_zero, List.set_cons_succ]
  refine wpAnyH_take (i := 2) (v := ?_) (by (simp only [List.getElem?_toArray, List.getElem?_cons_succ, List.getElem?_cons_zero]; rfl)) (by kernel_rfl) (by kernel_rfl) (by kernel_rfl) (by intro _ _ _ h; exact h) (Or.inl ⟨by rfl, ?_⟩) (by assumption) ?_
  rotate_left
  · (intro w hSw; (try dsimp only at hSw); go_simp; try (with_reducible rfl))
  simp only [Act.put, List.setIfInBounds_toArray, List.set_cons_zero, List.set_cons_succ]
  refine wpAnyH_take (i := 3) (v := ?_) (by (simp only [List.getElem?_toArray, List.getElem?_cons_succ, List.getElem?_cons_zero]; rfl)) (by kernel_rfl) (by kernel_rfl) (by kernel_rfl) (by intro _ _ _ h; exact h) (Or.inl ⟨by rfl, ?_⟩) (by assumption) ?_
  rotate_left
  · (intro w hSw; (try dsimp only at hSw); go_simp; try (with_reducible rfl))
  simp only [Act.put, List.setIfInBounds_toArray, List.set_cons_zero, List.set_cons_succ]
  refine wpAnyH_take (i := 4) (v := _) (by (simp only [List.getElem?_toArray, List.getElem?_cons_succ, List.getElem?_cons_zero]; rfl)) (by kernel_rfl) (by kernel_rfl) (by kernel_rfl) (by intro _ _ _ h; exact h) (yields_load_ed (by rfl) _ rfl (bA.add (nA * 18)) rfl pA (fun w h => HPI.out _ h.2)) (by assumption) ?_
  simp only [Act.put, List.setIfInBounds_toArray, List.set_cons_zero, List.set_cons_succ]
  clear hbel
  refine wpAnyH_ready (rs := [0, 5]) (by kernel_rfl) (by simp) ?_
  refine AllReadyH.cons (by (simp only [List.getElem?_toArray, List.getElem?_cons_succ, List.getElem?_cons_zero]; rfl)) (fun K hK => ?_) (AllReadyH.cons (by (simp only [List.getElem?_toArray, List.getElem?_cons_succ, List.getElem?_cons_zero]; rfl)) (fun K hK => ?_) AllReadyH.nil)
  · go_simp
    refine hK.out _ _ (HKC.out _ hHeld.2) (fun hHeld => ?_)
    clear hK K
    try simp only [Act.put, List.setIfInBounds_toArray, List.set_cons_zero, List.set_cons_succ]
    refine wpAnyH_ready (rs := [5]) (by kernel_rfl) (by simp) ?_
    refine AllReadyH.cons (by (simp only [List.getElem?_toArray, List.getElem?_cons_succ, List.getElem?_cons_zero]; rfl)) (fun K hK => ?_) AllReadyH.nil
    go_simp
    refine hK.out _ _ (HKC.out _ (hHeld.2.alloc (by have := HZ.out; simp; omega) _)) (fun hHeld => ?_)
    clear hK K
    try simp only [Act.put, List.setIfInBounds_toArray, List.set_cons_zero, List.set_cons_succ]
    refine wpAnyH_ready (rs := [6]) (by kernel_rfl) (by simp) ?_
    refine AllReadyH.cons (by (simp only [List.getElem?_toArray, List.getElem?_cons_succ, List.getElem?_cons_zero]; rfl)) (fun K hK => ?_) AllReadyH.nil
    obtain ⟨i0, hi0, hz0, hs0, hb0⟩ := info_parts ed_info
    refine wp_append_lies _ _ _ 29 rfl (L + 2) 50 i0 _ 18 248 Try.underlying29 hi0 hz0 hs0 hb0 rfl (by decide) v out.length (rowE out) rfl (World.ownsRow.drew (HOWN.out.alloc _)) ⟨w.heap.size, 0, none⟩ 1 1 (edCells pA) (by simp [Act.eval]) rfl (fun j u h => ed_news (w := w) j u h) (by simp [edCells, Value.oneCell']) (by omega) (by have := HLN.out; simp only [maxLen]; omega) (by have := HLN.out; omega) (by have := HZ.out; simp; omega) _ rfl ?_
    intro g1 cap1 w2 ho2 hg2 hat2 hlt2
    have hba : Below w.heap.size w (w.alloc (.cells #[.string pA.key.g, .string pA.key.a, .string pA.key.t, .string pA.key.c, .bool pA.had, .bool pA.has, .string pA.old.g, .string pA.old.a, .string pA.old.t, .string pA.old.c, .string pA.old.v, .int .i64 pA.old.sc, .string pA.new.g, .string pA.new.a, .string pA.new.t, .string pA.new.c, .string pA.new.v, .int .i64 pA.new.sc] 50)).drew := ((Below.refl w.heap.size w).alloc (Nat.le_refl _) _).drew
    have hb2 : Below (L + 2) w w2 := ((hba.mono HZ.out).grown hg2 (by have := HZ.out; simp; omega) HLE.out)
    refine hK.out _ _ (HKC.out _ (hb2.mono (by omega))) (fun hHeld => ?_)
    clear hK K
    try simp only [Act.put, List.setIfInBounds_toArray, List.set_cons_zero, List.set_cons_succ]
    have hL2 : w2.heap[L]? = some (Obj.cells #[v] 29 (0, 0)) := (hb2.block L (by omega)).trans HV.out
    have HL2 := Lib.hid hL2
    clear hL2
    refine wpAnyH_ready (rs := [7]) (by kernel_rfl) (by simp) ?_
    refine AllReadyH.cons (by (simp only [List.getElem?_toArray, List.getElem?_cons_succ, List.getElem?_cons_zero]; rfl)) (fun K hK => ?_) AllReadyH.nil
    refine wp_store_part 29 _ _ rfl L 0 (.slice (some ⟨g1, 0, none⟩) (out.length + 1) cap1) #[.slice (some ⟨g1, 0, none⟩) (out.length + 1) cap1] rfl rfl rfl 29 _ HL2.out (by kernel_rfl) (by simp) (by simp [Value.oneCell']) #[.slice (some ⟨g1, 0, none⟩) (out.length + 1) cap1] rfl ?_
    have hL3 : (w2.setRow L #[.slice (some ⟨g1, 0, none⟩) (out.length + 1) cap1]).heap[L]? = some (mkE (.slice (some ⟨g1, 0, none⟩) (out.length + 1) cap1)) := setRow_heap w2 L _ _ _ _ HL2.out
    have h3 : w2.grownBy (w2.setRow L #[.slice (some ⟨g1, 0, none⟩) (out.length + 1) cap1]) (some L) := ⟨rfl, rfl, rfl, by simp, fun k _ hk => setRow_other w2 L k _ (fun e => hk (by rw [e]))⟩
    have hne : ∀ k, k < (w.alloc (.cells #[.string pA.key.g, .string pA.key.a, .string pA.key.t, .string pA.key.c, .bool pA.had, .bool pA.has, .string pA.old.g, .string pA.old.a, .string pA.old.t, .string pA.old.c, .string pA.old.v, .int .i64 pA.old.sc, .string pA.new.g, .string pA.new.a, .string pA.new.t, .string pA.new.c, .string pA.new.v, .int .i64 pA.new.sc] 50)).drew.heap.size → v.ownBlock ≠ some k → (Value.slice (some ⟨g1, 0, none⟩) (out.length + 1) cap1).ownBlock ≠ some k := fun k hk h1 h2 => by
      have e1 : g1 = k := Option.some.inj h2
      subst e1
      rcases hat2 with h | h
      · exact h1 h
      · omega
    have HFIN := Lib.hid (HGI.out.add HV.out HRV.out HOWN.out hba ho2 hg2 hne h3 hL3)
    have HFF := Lib.hid (FitAt.add HFI.out HZ.out (fun k hk => HLE.out k (by rw [← HRV.out]; exact hk)) hba (by rw [HRV.out]; exact hg2) h3)
    refine hK.out _ _ (HKC.out _ (below_setRow (hb2.mono (by omega)) (Nat.le_refl _))) (fun hHeld => ?_)
    clear hK K
    try simp only [Act.put, List.setIfInBounds_toArray, List.set_cons_zero, List.set_cons_succ]
    refine wpAnyH_done (by kernel_rfl) ?_ _
    clear hba hg2 hne h3 hL3 ho2 hlt2 hat2 hb2 hcL hcL2
    go_wp2
    go_end0
    refine ⟨rfl, _, ?_, HFF.out, HFIN.out.2⟩
    have h := HFIN.out.1
    rw [← rowE_snoc] at h
    simpa using h
  · go_simp
    refine hK.out _ _ (HKC.out _ (hHeld.2.alloc (by have := HZ.out; simp; omega) _)) (fun hHeld => ?_)
    clear hK K
    try simp only [Act.put, List.setIfInBounds_toArray, List.set_cons_zero, List.set_cons_succ]
    refine wpAnyH_ready (rs := [0]) (by kernel_rfl) (by simp) ?_
    refine AllReadyH.cons (by (simp only [List.getElem?_toArray, List.getElem?_cons_succ, List.getElem?_cons_zero]; rfl)) (fun K hK => ?_) AllReadyH.nil
    go_simp
    refine hK.out _ _ (HKC.out _ hHeld.2) (fun hHeld => ?_)
    clear hK K
    try simp only [Act.put, List.setIfInBounds_toArray, List.set_cons_zero, List.set_cons_succ]
    refine wpAnyH_ready (rs := [6]) (by kernel_rfl) (by simp) ?_
    refine AllReadyH.cons (by (simp only [List.getElem?_toArray, List.getElem?_cons_succ, List.getElem?_cons_zero]; rfl)) (fun K hK => ?_) AllReadyH.nil
    obtain ⟨i0, hi0, hz0, hs0, hb0⟩ := info_parts ed_info
    refine wp_append_lies _ _ _ 29 rfl (L + 2) 50 i0 _ 18 248 Try.underlying29 hi0 hz0 hs0 hb0 rfl (by decide) v out.length (rowE out) rfl (World.ownsRow.drew (HOWN.out.alloc _)) ⟨w.heap.size, 0, none⟩ 1 1 (edCells pA) (by simp [Act.eval]) rfl (fun j u h => ed_news (w := w) j u h) (by simp [edCells, Value.oneCell']) (by omega) (by have := HLN.out; simp only [maxLen]; omega) (by have := HLN.out; omega) (by have := HZ.out; simp; omega) _ rfl ?_
    intro g1 cap1 w2 ho2 hg2 hat2 hlt2
    have hba : Below w.heap.size w (w.alloc (.cells #[.string pA.key.g, .string pA.key.a, .string pA.key.t, .string pA.key.c, .bool pA.had, .bool pA.has, .string pA.old.g, .string pA.old.a, .string pA.old.t, .string pA.old.c, .string pA.old.v, .int .i64 pA.old.sc, .string pA.new.g, .string pA.new.a, .string pA.new.t, .string pA.new.c, .string pA.new.v, .int .i64 pA.new.sc] 50)).drew := ((Below.refl w.heap.size w).alloc (Nat.le_refl _) _).drew
    have hb2 : Below (L + 2) w w2 := ((hba.mono HZ.out).grown hg2 (by have := HZ.out; simp; omega) HLE.out)
    refine hK.out _ _ (HKC.out _ (hb2.mono (by omega))) (fun hHeld => ?_)
    clear hK K
    try simp only [Act.put, List.setIfInBounds_toArray, List.set_cons_zero, List.set_cons_succ]
    have hL2 : w2.heap[L]? = some (Obj.cells #[v] 29 (0, 0)) := (hb2.block L (by omega)).trans HV.out
    have HL2 := Lib.hid hL2
    clear hL2
    refine wpAnyH_ready (rs := [7]) (by kernel_rfl) (by simp) ?_
    refine AllReadyH.cons (by (simp only [List.getElem?_toArray, List.getElem?_cons_succ, List.getElem?_cons_zero]; rfl)) (fun K hK => ?_) AllReadyH.nil
    refine wp_store_part 29 _ _ rfl L 0 (.slice (some ⟨g1, 0, none⟩) (out.length + 1) cap1) #[.slice (some ⟨g1, 0, none⟩) (out.length + 1) cap1] rfl rfl rfl 29 _ HL2.out (by kernel_rfl) (by simp) (by simp [Value.oneCell']) #[.slice (some ⟨g1, 0, none⟩) (out.length + 1) cap1] rfl ?_
    have hL3 : (w2.setRow L #[.slice (some ⟨g1, 0, none⟩) (out.length + 1) cap1]).heap[L]? = some (mkE (.slice (some ⟨g1, 0, none⟩) (out.length + 1) cap1)) := setRow_heap w2 L _ _ _ _ HL2.out
    have h3 : w2.grownBy (w2.setRow L #[.slice (some ⟨g1, 0, none⟩) (out.length + 1) cap1]) (some L) := ⟨rfl, rfl, rfl, by simp, fun k _ hk => setRow_other w2 L k _ (fun e => hk (by rw [e]))⟩
    have hne : ∀ k, k < (w.alloc (.cells #[.string pA.key.g, .string pA.key.a, .string pA.key.t, .string pA.key.c, .bool pA.had, .bool pA.has, .string pA.old.g, .string pA.old.a, .string pA.old.t, .string pA.old.c, .string pA.old.v, .int .i64 pA.old.sc, .string pA.new.g, .string pA.new.a, .string pA.new.t, .string pA.new.c, .string pA.new.v, .int .i64 pA.new.sc] 50)).drew.heap.size → v.ownBlock ≠ some k → (Value.slice (some ⟨g1, 0, none⟩) (out.length + 1) cap1).ownBlock ≠ some k := fun k hk h1 h2 => by
      have e1 : g1 = k := Option.some.inj h2
      subst e1
      rcases hat2 with h | h
      · exact h1 h
      · omega
    have HFIN := Lib.hid (HGI.out.add HV.out HRV.out HOWN.out hba ho2 hg2 hne h3 hL3)
    have HFF := Lib.hid (FitAt.add HFI.out HZ.out (fun k hk => HLE.out k (by rw [← HRV.out]; exact hk)) hba (by rw [HRV.out]; exact hg2) h3)
    refine hK.out _ _ (HKC.out _ (below_setRow (hb2.mono (by omega)) (Nat.le_refl _))) (fun hHeld => ?_)
    clear hK K
    try simp only [Act.put, List.setIfInBounds_toArray, List.set_cons_zero, List.set_cons_succ]
    refine wpAnyH_done (by kernel_rfl) ?_ _
    clear hba hg2 hne h3 hL3 ho2 hlt2 hat2 hb2 hcL hcL2
    go_wp2
    go_end0
    refine ⟨rfl, _, ?_, HFF.out, HFIN.out.2⟩
    have h := HFIN.out.1
    rw [← rowE_snoc] at h
    simpa using h
set_option maxRecDepth 100000 in
set_option maxHeartbeats 4000000 in
theorem meetJ_right (HB : Nat) (q : Value) (L : Nat) (w0 w : World) (out : List Ed) (r : Option Nat) (f : Bool)
    (hgi : GI L (L + 2) mkE 50 18 w0 out.length (rowE out) r w) (hfit : FitAt L f w) (hlen : out.length ≤ 2000000) (vB : Value) (lB : List Ed) (pB : Ed) (nB : Nat) (hpB : lB[nB]? = some pB) (hnB : nB ≤ 1000000) (hcB : w0.cell? ⟨HB, 0, none⟩ = some vB) (hrB : RdE w0 vB lB) :
    Calls Try.prog 41 #[.int .i64 (-1), .int .i64 nB, .pointer (some ⟨L, 0, none⟩), q, .pointer (some ⟨HB, 0, none⟩), .pointer (some ⟨L + 1, 0, none⟩)] w (AddJ L w0 (out ++ [pB]) f r w) := by
  have hbw := hgi.b
  have hsz := hgi.sz
  obtain ⟨paB, pcB, rfl⟩ := hrB.shape
  obtain ⟨bB, rfl, _, hl1B, hl2B, hqB⟩ := hrB.elem hpB
  have HPRB := Lib.hid (RdE.atR hqB hpB (Below.refl w0.heap.size w0) (Nat.le_refl _))
  have hilB : (nB : Int) < lB.length := by have := (List.getElem?_eq_some_iff.1 hpB).1; omega
  have hn0B : (0 : Int) ≤ nB := by omega
  have hnatB : nB < lB.length := (List.getElem?_eq_some_iff.1 hpB).1
  have HLTB := Lib.hid (show HB < w0.heap.size from World.block_lt_of_cell? w0 _ hcB)
  have h0B : w.cell? ⟨HB, 0, none⟩ = some (.slice (some bB) lB.length pcB) := (hbw.cell (p := ⟨HB, 0, none⟩) (by have := HLTB.out; simp only; omega)).trans hcB
  clear hqB hrB hcB hpB
  obtain ⟨v, hv, hown, hrv⟩ := hgi.row
  have hbs := hgi.bs
  have hbel : Below L w w.drew := (Below.refl _ _).drew
  have hcL : w.cell? ⟨L, 0, none⟩ = some v := by rw [cell_of_row w L 0 _ _ (0, 0) hv]; rfl
  have hcL2 : (w.alloc (.cells #[.string pB.key.g, .string pB.key.a, .string pB.key.t, .string pB.key.c, .bool pB.had, .bool pB.has, .string pB.old.g, .string pB.old.a, .string pB.old.t, .string pB.old.c, .string pB.old.v, .int .i64 pB.old.sc, .string pB.new.g, .string pB.new.a, .string pB.new.t, .string pB.new.c, .string pB.new.v, .int .i64 pB.new.sc] 50)).cell? ⟨L, 0, none⟩ = some v := (((Below.refl w.heap.size w).alloc (Nat.le_refl _) _).cell (p := ⟨L, 0, none⟩) (by simp only; omega)).trans hcL
  have HKC := Lib.hid (fun (w' : World) (hb : Below L w w') => show w'.cell? ⟨HB, 0, none⟩ = some (.slice (some bB) lB.length pcB) ∧ Below L w w' from
    ⟨(hb.cell (p := ⟨HB, 0, none⟩) (by have := HLTB.out; simp only; omega)).trans h0B, hb⟩)
  have HPI := Lib.hid (fun (w' : World) (hb : Below L w w') => show EdR w' (bB.add (nB * 18)) pB from HPRB.out.below (hbw.trans hb) (by omega))
  have HGI := Lib.hid hgi
  have HFI := Lib.hid hfit
  have HV := Lib.hid hv
  have HRV := Lib.hid hrv
  have HOWN := Lib.hid hown
  have HLE := Lib.hid (show ∀ k, v.ownBlock = some k → L + 2 ≤ k from fun k hk => (hown.lt k hk).1)
  have HZ := Lib.hid hbs
  have HLN := Lib.hid hlen
  clear hgi hfit hv hrv hown hbw h0B hsz hbs hlen
  go_enter Try.func41, Try.ntmps41
  go_upto_region 8 with fail
  refine wp_region_held_drew (S := (fun w' => w'.cell? ⟨HB, 0, none⟩ = some (.slice (some bB) lB.length pcB) ∧ Below L w w')) (by kernel_rfl) (by (try dsimp only); exact HKC.out _ hbel) (fun hHeld => ?_)
  refine wpAnyH_take (i := 1) (v := ?_) (by (simp only [List.getElem?_toArray, List.getElem?_cons_succ, List.getElem?_cons_zero]; rfl)) (by kernel_rfl) (by kernel_rfl) (by kernel_rfl) (by intro _ _ _ h; exact h) (Or.inl ⟨by rfl, ?_⟩) (by assumption) ?_
  rotate_left
  · (intro w hSw; (try dsimp only at hSw); go_simp; try (with_reducible rfl))
  simp only [Act.put, List.setIfInBounds_toArray, List.set_cons_zero, List.set_cons_succ]
  refine wpAnyH_take (i := 2) (v := ?_) (by (simp only [List.getElem?_toArray, List.getElem?_cons_succ, List.getElem?_cons_zero]; rfl)) (by kernel_rfl) (by kernel_rfl) (by kernel_rfl) (by intro _ _ _ h; exact h) (Or.inl ⟨by rfl, ?_⟩) (by assumption) ?_
  rotate_left
  · (intro w hSw; (try dsimp only at hSw); go_simp; try (with_reducible rfl))
  simp only [Act.put, List.setIfInBounds_toArray, List.set_cons_zero, List.set_cons_succ]
  refine wpAnyH_take (i := 3) (v := ?_) (by (simp only [List.getElem?_toArray, List.getElem?_cons_succ, List.getElem?_cons_zero]; rfl)) (by kernel_rfl) (by kernel_rfl) (by kernel_rfl) (by intro _ _ _ h; exact h) (Or.inl ⟨by rfl, ?_⟩) (by assumption) ?_
  rotate_left
  · (intro w hSw; (try dsimp only at hSw); go_simp; try (with_reducible rfl))
  simp only [Act.put, List.setIfInBounds_toArray, List.set_cons_zero, List.set_cons_succ]
  refine wpAnyH_take (i := 4) (v := _) (by (simp only [List.getElem?_toArray, List.getElem?_cons_succ, List.getElem?_cons_zero]; rfl)) (by kernel_rfl) (by kernel_rfl) (by kernel_rfl) (by intro _ _ _ h; exact h) (yields_load_ed (by rfl) _ rfl (bB.add (nB * 18)) rfl pB (fun w h => HPI.out _ h.2)) (by assumption) ?_
  simp only [Act.put, List.setIfInBounds_toArray, List.set_cons_zero, List.set_cons_succ]
  clear hbel
  refine wpAnyH_ready (rs := [0, 5]) (by kernel_rfl) (by simp) ?_
  refine AllReadyH.cons (by (simp only [List.getElem?_toArray, List.getElem?_cons_succ, List.getElem?_cons_zero]; rfl)) (fun K hK => ?_) (AllReadyH.cons (by (simp only [List.getElem?_toArray, List.getElem?_cons_succ, List.getElem?_cons_zero]; rfl)) (fun K hK => ?_) AllReadyH.nil)
  · go_simp
    refine hK.out _ _ (HKC.out _ hHeld.2) (fun hHeld => ?_)
    clear hK K
    try simp only [Act.put, List.setIfInBounds_toArray, List.set_cons_zero, List.set_cons_succ]
    refine wpAnyH_ready (rs := [5]) (by kernel_rfl) (by simp) ?_
    refine AllReadyH.cons (by (simp only [List.getElem?_toArray, List.getElem?_cons_succ, List.getElem?_cons_zero]; rfl)) (fun K hK => ?_) AllReadyH.nil
    go_simp
    refine hK.out _ _ (HKC.out _ (hHeld.2.alloc (by have := HZ.out; simp; omega) _)) (fun hHeld => ?_)
    clear hK K
    try simp only [Act.put, List.setIfInBounds_toArray, List.set_cons_zero, List.set_cons_succ]
    refine wpAnyH_ready (rs := [6]) (by kernel_rfl) (by simp) ?_
    refine AllReadyH.cons (by (simp only [List.getElem?_toArray, List.getElem?_cons_succ, List.getElem?_cons_zero]; rfl)) (fun K hK => ?_) AllReadyH.nil
    obtain ⟨i0, hi0, hz0, hs0, hb0⟩ := info_parts ed_info
    refine wp_append_lies _ _ _ 29 rfl (L + 2) 50 i0 _ 18 248 Try.underlying29 hi0 hz0 hs0 hb0 rfl (by decide) v out.length (rowE out) rfl (World.ownsRow.drew (HOWN.out.alloc _)) ⟨w.heap.size, 0, none⟩ 1 1 (edCells pB) (by simp [Act.eval]) rfl (fun j u h => ed_news (w := w) j u h) (by simp [edCells, Value.oneCell']) (by omega) (by have := HLN.out; simp only [maxLen]; omega) (by have := HLN.out; omega) (by have := HZ.out; simp; omega) _ rfl ?_
    intro g1 cap1 w2 ho2 hg2 hat2 hlt2
    have hba : Below w.heap.size w (w.alloc (.cells #[.string pB.key.g, .string pB.key.a, .string pB.key.t, .string pB.key.c, .bool pB.had, .bool pB.has, .string pB.old.g, .string pB.old.a, .string pB.old.t, .string pB.old.c, .string pB.old.v, .int .i64 pB.old.sc, .string pB.new.g, .string pB.new.a, .string pB.new.t, .string pB.new.c, .string pB.new.v, .int .i64 pB.new.sc] 50)).drew := ((Below.refl w.heap.size w).alloc (Nat.le_refl _) _).drew
    have hb2 : Below (L + 2) w w2 := ((hba.mono HZ.out).grown hg2 (by have := HZ.out; simp; omega) HLE.out)
    refine hK.out _ _ (HKC.out _ (hb2.mono (by omega))) (fun hHeld => ?_)
    clear hK K
    try simp only [Act.put, List.setIfInBounds_toArray, List.set_cons_zero, List.set_cons_succ]
    have hL2 : w2.heap[L]? = some (Obj.cells #[v] 29 (0, 0)) := (hb2.block L (by omega)).trans HV.out
    have HL2 := Lib.hid hL2
    clear hL2
    refine wpAnyH_ready (rs := [7]) (by kernel_rfl) (by simp) ?_
    refine AllReadyH.cons (by (simp only [List.getElem?_toArray, List.getElem?_cons_succ, List.getElem?_cons_zero]; rfl)) (fun K hK => ?_) AllReadyH.nil
    refine wp_store_part 29 _ _ rfl L 0 (.slice (some ⟨g1, 0, none⟩) (out.length + 1) cap1) #[.slice (some ⟨g1, 0, none⟩) (out.length + 1) cap1] rfl rfl rfl 29 _ HL2.out (by kernel_rfl) (by simp) (by simp [Value.oneCell']) #[.slice (some ⟨g1, 0, none⟩) (out.length + 1) cap1] rfl ?_
    have hL3 : (w2.setRow L #[.slice (some ⟨g1, 0, none⟩) (out.length + 1) cap1]).heap[L]? = some (mkE (.slice (some ⟨g1, 0, none⟩) (out.length + 1) cap1)) := setRow_heap w2 L _ _ _ _ HL2.out
    have h3 : w2.grownBy (w2.setRow L #[.slice (some ⟨g1, 0, none⟩) (out.length + 1) cap1]) (some L) := ⟨rfl, rfl, rfl, by simp, fun k _ hk => setRow_other w2 L k _ (fun e => hk (by rw [e]))⟩
    have hne : ∀ k, k < (w.alloc (.cells #[.string pB.key.g, .string pB.key.a, .string pB.key.t, .string pB.key.c, .bool pB.had, .bool pB.has, .string pB.old.g, .string pB.old.a, .string pB.old.t, .string pB.old.c, .string pB.old.v, .int .i64 pB.old.sc, .string pB.new.g, .string pB.new.a, .string pB.new.t, .string pB.new.c, .string pB.new.v, .int .i64 pB.new.sc] 50)).drew.heap.size → v.ownBlock ≠ some k → (Value.slice (some ⟨g1, 0, none⟩) (out.length + 1) cap1).ownBlock ≠ some k := fun k hk h1 h2 => by
      have e1 : g1 = k := Option.some.inj h2
      subst e1
      rcases hat2 with h | h
      · exact h1 h
      · omega
    have HFIN := Lib.hid (HGI.out.add HV.out HRV.out HOWN.out hba ho2 hg2 hne h3 hL3)
    have HFF := Lib.hid (FitAt.add HFI.out HZ.out (fun k hk => HLE.out k (by rw [← HRV.out]; exact hk)) hba (by rw [HRV.out]; exact hg2) h3)
    refine hK.out _ _ (HKC.out _ (below_setRow (hb2.mono (by omega)) (Nat.le_refl _))) (fun hHeld => ?_)
    clear hK K
    try simp only [Act.put, List.setIfInBounds_toArray, List.set_cons_zero, List.set_cons_succ]
    refine wpAnyH_done (by kernel_rfl) ?_ _
    clear hba hg2 hne h3 hL3 ho2 hlt2 hat2 hb2 hcL hcL2
    go_wp2
    go_end0
    refine ⟨rfl, _, ?_, HFF.out, HFIN.out.2⟩
    have h := HFIN.out.1
    rw [← rowE_snoc] at h
    simpa using h
  · go_simp
    refine hK.out _ _ (HKC.out _ (hHeld.2.alloc (by have := HZ.out; simp; omega) _)) (fun hHeld => ?_)
    clear hK K
    try simp only [Act.put, List.setIfInBounds_toArray, List.set_cons_zero, List.set_cons_succ]
    refine wpAnyH_ready (rs := [0]) (by kernel_rfl) (by simp) ?_
    refine AllReadyH.cons (by (simp only [List.getElem?_toArray, List.getElem?_cons_succ, List.getElem?_cons_zero]; rfl)) (fun K hK => ?_) AllReadyH.nil
    go_simp
    refine hK.out _ _ (HKC.out _ hHeld.2) (fun hHeld => ?_)
    clear hK K
    try simp only [Act.put, List.setIfInBounds_toArray, List.set_cons_zero, List.set_cons_succ]
    refine wpAnyH_ready (rs := [6]) (by kernel_rfl) (by simp) ?_
    refine AllReadyH.cons (by (simp only [List.getElem?_toArray, List.getElem?_cons_succ, List.getElem?_cons_zero]; rfl)) (fun K hK => ?_) AllReadyH.nil
    obtain ⟨i0, hi0, hz0, hs0, hb0⟩ := info_parts ed_info
    refine wp_append_lies _ _ _ 29 rfl (L + 2) 50 i0 _ 18 248 Try.underlying29 hi0 hz0 hs0 hb0 rfl (by decide) v out.length (rowE out) rfl (World.ownsRow.drew (HOWN.out.alloc _)) ⟨w.heap.size, 0, none⟩ 1 1 (edCells pB) (by simp [Act.eval]) rfl (fun j u h => ed_news (w := w) j u h) (by simp [edCells, Value.oneCell']) (by omega) (by have := HLN.out; simp only [maxLen]; omega) (by have := HLN.out; omega) (by have := HZ.out; simp; omega) _ rfl ?_
    intro g1 cap1 w2 ho2 hg2 hat2 hlt2
    have hba : Below w.heap.size w (w.alloc (.cells #[.string pB.key.g, .string pB.key.a, .string pB.key.t, .string pB.key.c, .bool pB.had, .bool pB.has, .string pB.old.g, .string pB.old.a, .string pB.old.t, .string pB.old.c, .string pB.old.v, .int .i64 pB.old.sc, .string pB.new.g, .string pB.new.a, .string pB.new.t, .string pB.new.c, .string pB.new.v, .int .i64 pB.new.sc] 50)).drew := ((Below.refl w.heap.size w).alloc (Nat.le_refl _) _).drew
    have hb2 : Below (L + 2) w w2 := ((hba.mono HZ.out).grown hg2 (by have := HZ.out; simp; omega) HLE.out)
    refine hK.out _ _ (HKC.out _ (hb2.mono (by omega))) (fun hHeld => ?_)
    clear hK K
    try simp only [Act.put, List.setIfInBounds_toArray, List.set_cons_zero, List.set_cons_succ]
    have hL2 : w2.heap[L]? = some (Obj.cells #[v] 29 (0, 0)) := (hb2.block L (by omega)).trans HV.out
    have HL2 := Lib.hid hL2
    clear hL2
    refine wpAnyH_ready (rs := [7]) (by kernel_rfl) (by simp) ?_
    refine AllReadyH.cons (by (simp only [List.getElem?_toArray, List.getElem?_cons_succ, List.getElem?_cons_zero]; rfl)) (fun K hK => ?_) AllReadyH.nil
    refine wp_store_part 29 _ _ rfl L 0 (.slice (some ⟨g1, 0, none⟩) (out.length + 1) cap1) #[.slice (some ⟨g1, 0, none⟩) (out.length + 1) cap1] rfl rfl rfl 29 _ HL2.out (by kernel_rfl) (by simp) (by simp [Value.oneCell']) #[.slice (some ⟨g1, 0, none⟩) (out.length + 1) cap1] rfl ?_
    have hL3 : (w2.setRow L #[.slice (some ⟨g1, 0, none⟩) (out.length + 1) cap1]).heap[L]? = some (mkE (.slice (some ⟨g1, 0, none⟩) (out.length + 1) cap1)) := setRow_heap w2 L _ _ _ _ HL2.out
    have h3 : w2.grownBy (w2.setRow L #[.slice (some ⟨g1, 0, none⟩) (out.length + 1) cap1]) (some L) := ⟨rfl, rfl, rfl, by simp, fun k _ hk => setRow_other w2 L k _ (fun e => hk (by rw [e]))⟩
    have hne : ∀ k, k < (w.alloc (.cells #[.string pB.key.g, .string pB.key.a, .string pB.key.t, .string pB.key.c, .bool pB.had, .bool pB.has, .string pB.old.g, .string pB.old.a, .string pB.old.t, .string pB.old.c, .string pB.old.v, .int .i64 pB.old.sc, .string pB.new.g, .string pB.new.a, .string pB.new.t, .string pB.new.c, .string pB.new.v, .int .i64 pB.new.sc] 50)).drew.heap.size → v.ownBlock ≠ some k → (Value.slice (some ⟨g1, 0, none⟩) (out.length + 1) cap1).ownBlock ≠ some k := fun k hk h1 h2 => by
      have e1 : g1 = k := Option.some.inj h2
      subst e1
      rcases hat2 with h | h
      · exact h1 h
      · omega
    have HFIN := Lib.hid (HGI.out.add HV.out HRV.out HOWN.out hba ho2 hg2 hne h3 hL3)
    have HFF := Lib.hid (FitAt.add HFI.out HZ.out (fun k hk => HLE.out k (by rw [← HRV.out]; exact hk)) hba (by rw [HRV.out]; exact hg2) h3)
    refine hK.out _ _ (HKC.out _ (below_setRow (hb2.mono (by omega)) (Nat.le_refl _))) (fun hHeld => ?_)
    clear hK K
    try simp only [Act.put, List.setIfInBounds_toArray, List.set_cons_zero, List.set_cons_succ]
    refine wpAnyH_done (by kernel_rfl) ?_ _
    clear hba hg2 hne h3 hL3 ho2 hlt2 hat2 hb2 hcL hcL2
    go_wp2
    go_end0
    refine ⟨rfl, _, ?_, HFF.out, HFIN.out.2⟩
    have h := HFIN.out.1
    rw [← rowE_snoc] at h
    simpa using h
end Go.Proofs.Ytoibanffaebllaa
