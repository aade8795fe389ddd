/-
  Layer 25: diff.Apply's closure (a pin alone). Own work.
-/
import Derived.Test.YtoibanffaebllaaGath25
import Derived.Test.YtoibanffaebllaaMayL24
import Derived.BigRegion
import Derived.RegionTactic
namespace Go.Proofs.Ytoibanffaebllaa
set_option linter.unusedVariables false
set_option linter.unusedSimpArgs false
open Go.RowKit

/-- the lock that is put together -/
def mkL (g a u : ByteArray) (v : Value) : Obj := .cells #[.string g, .string a, .string u, v] 26 (0, 0)
/-- the Bool in the next block -/
def FitAt (L : Nat) (f : Bool) (w : World) : Prop := w.heap[L + 1]? = some (Obj.cells #[.bool f] 4 (0, 0))
def AddA (L : Nat) (mk : Value → Obj) (w0 : World) (out : List Pn) (f : Bool) (r : Option Nat) (w : World) (e : Ending) (w' : World) : Prop :=
  e = .returned (.tuple #[]) ∧ ∃ r', GI L (L + 2) mk 48 6 w0 out.length (rowN out) r' w' ∧ FitAt L f w' ∧ Stp (L + 2) r w r' w'
section
variable {L : Nat} {mk : Value → Obj} {e s n n' : Nat} {w0 w w' w1 w2 w3 : World} {xs xs' : List Value} {r : Option Nat} {v v' : Value} {f : Bool}
theorem FitAt.below {B : Nat} (h : FitAt L f w) (hb : Below B w w') (hB : L + 2 ≤ B) : FitAt L f w' := (hb.block (L + 1) (by omega)).trans h
theorem FitAt.frm (h : FitAt L f w) (hz : L + 2 ≤ w.heap.size) (hf : Frm (L + 2) r w w') : FitAt L f w' := (hf.block (L + 1) (by omega) (.inl (by omega))).trans h
/-- the Bool is stored -/
theorem GI.fit (h : GI L (L + 2) mk e s w0 n xs r w) (c : Array Value) : GI L (L + 2) mk e s w0 n xs r (w.setRow (L + 1) c) ∧ Stp (L + 2) r w r (w.setRow (L + 1) c) := by
  obtain ⟨v, h1, h2, h3⟩ := h.row
  have hs : ∀ x, x ≠ L + 1 → (w.setRow (L + 1) c).heap[x]? = w.heap[x]? := fun x hx => setRow_other w (L + 1) x c hx
  refine ⟨⟨h.sz, h.lt, ⟨h.b.os, h.b.tape, h.b.output, by simpa using h.b.size, fun k hk => (hs k (by omega)).trans (h.b.block k hk)⟩, by simpa using h.bs, v, (hs L (by omega)).trans h1, own_same h2 fun g hg => hs g (by have := (h2.lt g hg).1; omega), h3⟩, by simp, fun x h1 _ _ => hs x (by omega), fun _ _ h => h⟩
theorem FitAt.set (h : FitAt L f w) (b : Bool) : FitAt L b (w.setRow (L + 1) #[.bool b]) := setRow_heap w (L + 1) _ _ _ _ h
theorem FitAt.add (h : FitAt L f w) (hz : L + 2 ≤ w.heap.size) (hr : ∀ k, r = some k → L + 2 ≤ k) (hb : Below w.heap.size w w1) (hg : w1.grownBy w2 r) (h3 : w2.grownBy w3 (some L)) : FitAt L f w3 := by
  have h1 := hb.size
  have h2 := hg.size
  exact ((h3.block (L + 1) (by omega) (fun e => by have := Option.some.inj e; omega)).trans ((hg.block (L + 1) (by omega) (fun e => by have := hr _ e.symm; omega)).trans (hb.block (L + 1) (by omega)))).trans h
end
set_option maxRecDepth 100000 in
set_option maxHeartbeats 4000000 in
theorem meetA_left (HA : Nat) (qE : Value) (L : Nat) (w0 w : World) (g a u : ByteArray) (out : List Pn) (r : Option Nat) (f : Bool)
    (hgi : GI L (L + 2) (mkL g a u) 48 6 w0 out.length (rowN out) r w) (hfit : FitAt L f w) (hlen : out.length ≤ 2000000) (gA aA vA : ByteArray) (pvA : Value) (lA : List Pn) (pA : Pn) (nA : Nat) (hpA : lA[nA]? = some pA) (hnA : nA ≤ 1000000) (hlkA : LkIn w0 HA gA aA vA pvA) (hrA : RdN w0 pvA lA) :
    Calls Try.prog 35 #[.int .i64 nA, .int .i64 (-1), .pointer (some ⟨L, 0, none⟩), .pointer (some ⟨HA, 0, none⟩), qE, .pointer (some ⟨L + 1, 0, none⟩)] w (AddA L (mkL g a u) w0 (out ++ [pA]) f r w) := by
  have hbw := hgi.b
  have hsz := hgi.sz
  have hrA0 := hrA
  obtain ⟨paA, pcA, rfl⟩ := hrA.shape
  have HRA := Lib.hid (hrA.below hbw (by omega))
  have hlk1A := hlkA.below hbw (by omega)
  obtain ⟨bA, rfl, _, hl1A, hl2A, hcA⟩ := HRA.out.elem hpA
  have HPRA := Lib.hid (RdN.atR hcA hpA (Below.refl w.heap.size w) (Nat.le_refl _))
  have hilA : (nA : Int) < lA.length := by have := (List.getElem?_eq_some_iff.1 hpA).1; omega
  have hn0A : (0 : Int) ≤ nA := by omega
  have hnatA : nA < lA.length := (List.getElem?_eq_some_iff.1 hpA).1
  have HLTA := Lib.hid (show HA < w.heap.size from World.block_lt_of_cell? w _ hlk1A.1)
  have HLKA := Lib.hid hlk1A
  have HNEA := Lib.hid (show (⟨HA, 3, none⟩ : Addr).block ≠ w.heap.size from by have := HLTA.out; simp only; omega)
  obtain ⟨b0, hb0, _, _, _, hc0⟩ := hrA0.elem hpA
  obtain rfl : bA = b0 := Option.some.inj hb0
  have HPR0 := Lib.hid (RdN.atR hc0 hpA (Below.refl w0.heap.size w0) (Nat.le_refl _))
  have HLT0 := Lib.hid (show HA < w0.heap.size from World.block_lt_of_cell? w0 _ hlkA.1)
  have h3A := hlk1A.2.2.2
  clear hcA hrA hrA0 hlkA hlk1A hpA hc0 hb0
  obtain ⟨v, hv, hown, hrv⟩ := hgi.row
  have hbs := hgi.bs
  have hbel : Below L w w.drew := (Below.refl _ _).drew
  have hcL : w.cell? ⟨L, 3, none⟩ = some v := by rw [cell_of_row w L 3 _ _ (0, 0) hv]; rfl
  have hcL2 : (w.alloc (.cells #[.string pA.g, .string pA.a, .string pA.t, .string pA.c, .string pA.v, .int .i64 pA.sc] 48)).cell? ⟨L, 3, none⟩ = some v := (((Below.refl w.heap.size w).alloc (Nat.le_refl _) _).cell (p := ⟨L, 3, none⟩) (by simp only; omega)).trans hcL
  have HKC := Lib.hid (fun (w' : World) (hb : Below L w w') => show w'.cell? ⟨HA, 3, none⟩ = some (.slice (some bA) lA.length pcA) ∧ Below L w w' from
    ⟨(hb.cell (p := ⟨HA, 3, none⟩) (by have := HLT0.out; simp only; omega)).trans h3A, hb⟩)
  have HPI := Lib.hid (fun (w' : World) (hb : Below L w w') => show PinR w' (bA.add (nA * 6)) pA from HPR0.out.below (hbw.trans hb) (by omega))
  have HGI := Lib.hid hgi
  have HFI := Lib.hid hfit
  have HV := Lib.hid hv
  have HRV := Lib.hid hrv
  have HOWN := Lib.hid hown
  have HLE := Lib.hid (show ∀ k, v.ownBlock = some k → L + 2 ≤ k from fun k hk => (hown.lt k hk).1)
  have HZ := Lib.hid hbs
  have HLN := Lib.hid hlen
  clear hgi hfit hv hrv hown hbw h3A hsz hbs hlen
  go_enter Try.func35, Try.ntmps35
  go_upto_region 1 with fail
  refine wp_region_held_drew (S := (fun w' => w'.cell? ⟨HA, 3, none⟩ = some (.slice (some bA) lA.length pcA) ∧ Below L w w')) (by kernel_rfl) (by (try dsimp only); exact HKC.out _ hbel) (fun hHeld => ?_)
  refine wpAnyH_take (i := 0) (v := ?_) (by (simp only [List.getElem?_toArray, List.getElem?_cons_succ, List.getElem?_cons_zero]; rfl)) (by kernel_rfl) (by kernel_rfl) (by kernel_rfl) (by intro _ _ _ h; exact h) (Or.inl ⟨by rfl, ?_⟩) (by assumption) ?_
  rotate_left
  · (intro w hSw; (try dsimp only at hSw); go_simp; try (with_reducible rfl))
  simp only [Act.put, List.setIfInBounds_toArray, List.set_cons_zero, List.set_cons_succ]
  refine wpAnyH_take (i := 2) (v := ?_) (by (simp only [List.getElem?_toArray, List.getElem?_cons_succ, List.getElem?_cons_zero]; rfl)) (by kernel_rfl) (by kernel_rfl) (by kernel_rfl) (by intro _ _ _ h; exact h) (Or.inl ⟨by rfl, ?_⟩) (by assumption) ?_
  rotate_left
  · (intro w hSw; (try dsimp only at hSw); go_simp; try (with_reducible rfl))
  simp only [Act.put, List.setIfInBounds_toArray, List.set_cons_zero, List.set_cons_succ]
  refine wpAnyH_take (i := 3) (v := ?_) (by (simp only [List.getElem?_toArray, List.getElem?_cons_succ, List.getElem?_cons_zero]; rfl)) (by kernel_rfl) (by kernel_rfl) (by kernel_rfl) (by intro _ _ _ h; exact h) (Or.inl ⟨by rfl, ?_⟩) (by assumption) ?_
  rotate_left
  · (intro w hSw; (try dsimp only at hSw); go_simp; try (with_reducible rfl))
  simp only [Act.put, List.setIfInBounds_toArray, List.set_cons_zero, List.set_cons_succ]
  refine wpAnyH_take (i := 4) (v := ?_) (by (simp only [List.getElem?_toArray, List.getElem?_cons_succ, List.getElem?_cons_zero]; rfl)) (by kernel_rfl) (by kernel_rfl) (by kernel_rfl) (by intro _ _ _ h; exact h) (Or.inl ⟨by rfl, ?_⟩) (by assumption) ?_
  rotate_left
  · (intro w hSw; (try dsimp only at hSw); go_simp; try (with_reducible rfl))
  simp only [Act.put, List.setIfInBounds_toArray, List.set_cons_zero, List.set_cons_succ]
  refine wpAnyH_take (i := 5) (v := ?_) (by (simp only [List.getElem?_toArray, List.getElem?_cons_succ, List.getElem?_cons_zero]; rfl)) (by kernel_rfl) (by kernel_rfl) (by kernel_rfl) (by intro _ _ _ h; exact h) (Or.inl ⟨by rfl, ?_⟩) (by assumption) ?_
  rotate_left
  · (intro w hSw; (try dsimp only at hSw); go_simp; try (with_reducible rfl))
  simp only [Act.put, List.setIfInBounds_toArray, List.set_cons_zero, List.set_cons_succ]
  refine wpAnyH_take (i := 6) (v := _) (by (simp only [List.getElem?_toArray, List.getElem?_cons_succ, List.getElem?_cons_zero]; rfl)) (by kernel_rfl) (by kernel_rfl) (by kernel_rfl) (by intro _ _ _ h; exact h) (yields_load_pin (by rfl) _ rfl (bA.add (nA * 6)) rfl pA (fun w h => HPI.out _ h.2)) (by assumption) ?_
  simp only [Act.put, List.setIfInBounds_toArray, List.set_cons_zero, List.set_cons_succ]
  clear hbel
  refine wpAnyH_ready (rs := [1, 7]) (by kernel_rfl) (by simp) ?_
  refine AllReadyH.cons (by (simp only [List.getElem?_toArray, List.getElem?_cons_succ, List.getElem?_cons_zero]; rfl)) (fun K hK => ?_) (AllReadyH.cons (by (simp only [List.getElem?_toArray, List.getElem?_cons_succ, List.getElem?_cons_zero]; rfl)) (fun K hK => ?_) AllReadyH.nil)
  · go_simp
    refine hK.out _ _ (HKC.out _ hHeld.2) (fun hHeld => ?_)
    clear hK K
    try simp only [Act.put, List.setIfInBounds_toArray, List.set_cons_zero, List.set_cons_succ]
    refine wpAnyH_ready (rs := [7]) (by kernel_rfl) (by simp) ?_
    refine AllReadyH.cons (by (simp only [List.getElem?_toArray, List.getElem?_cons_succ, List.getElem?_cons_zero]; rfl)) (fun K hK => ?_) AllReadyH.nil
    go_simp
    refine hK.out _ _ (HKC.out _ (hHeld.2.alloc (by have := HZ.out; simp; omega) _)) (fun hHeld => ?_)
    clear hK K
    try simp only [Act.put, List.setIfInBounds_toArray, List.set_cons_zero, List.set_cons_succ]
    refine wpAnyH_ready (rs := [8]) (by kernel_rfl) (by simp) ?_
    refine AllReadyH.cons (by (simp only [List.getElem?_toArray, List.getElem?_cons_succ, List.getElem?_cons_zero]; rfl)) (fun K hK => ?_) AllReadyH.nil
    obtain ⟨i0, hi0, hz0, hs0, hb0⟩ := info_parts pn_info
    refine wp_append_lies _ _ _ 24 rfl (L + 2) 48 i0 _ 6 88 Try.underlying24 hi0 hz0 hs0 hb0 rfl (by decide) v out.length (rowN out) rfl (World.ownsRow.drew (HOWN.out.alloc _)) ⟨w.heap.size, 0, none⟩ 1 1 (pnCells pA) (by simp [Act.eval]) rfl ?_ (by simp [pnCells, Value.oneCell']) (by omega) (by have := HLN.out; simp only [maxLen]; omega) (by have := HLN.out; omega) (by have := HZ.out; simp; omega) _ rfl ?_
    · intro j y hj
      show (w.alloc (.cells #[.string pA.g, .string pA.a, .string pA.t, .string pA.c, .string pA.v, .int .i64 pA.sc] 48)).cell? _ = some y
      rw [add_off, cell_of_row _ w.heap.size j _ 48 (0, 0) (heap_alloc_new w _)]
      have : (#[Value.string pA.g, .string pA.a, .string pA.t, .string pA.c, .string pA.v, .int .i64 pA.sc] : Array Value) = (pnCells pA).toArray := rfl
      rw [this]
      simpa using hj
    intro g1 cap1 w2 ho2 hg2 hat2 hlt2
    have hba : Below w.heap.size w (w.alloc (.cells #[.string pA.g, .string pA.a, .string pA.t, .string pA.c, .string pA.v, .int .i64 pA.sc] 48)).drew := ((Below.refl w.heap.size w).alloc (Nat.le_refl _) _).drew
    have hb2 : Below (L + 2) w w2 := ((hba.mono HZ.out).grown hg2 (by have := HZ.out; simp; omega) HLE.out)
    refine hK.out _ _ (HKC.out _ (hb2.mono (by omega))) (fun hHeld => ?_)
    clear hK K
    try simp only [Act.put, List.setIfInBounds_toArray, List.set_cons_zero, List.set_cons_succ]
    have hL2 : w2.heap[L]? = some (Obj.cells #[.string g, .string a, .string u, v] 26 (0, 0)) := (hb2.block L (by omega)).trans HV.out
    have HL2 := Lib.hid hL2
    clear hL2
    refine wpAnyH_take (i := 9) (v := ?_) (by (simp only [List.getElem?_toArray, List.getElem?_cons_succ, List.getElem?_cons_zero]; rfl)) (by kernel_rfl) (by kernel_rfl) (by kernel_rfl) (by intro _ _ _ h; exact h) (Or.inl ⟨by rfl, ?_⟩) (by assumption) ?_
    rotate_left
    · (intro w hSw; (try dsimp only at hSw); go_simp; try (with_reducible rfl))
    simp only [Act.put, List.setIfInBounds_toArray, List.set_cons_zero, List.set_cons_succ]
    refine wpAnyH_ready (rs := [10]) (by kernel_rfl) (by simp) ?_
    refine AllReadyH.cons (by (simp only [List.getElem?_toArray, List.getElem?_cons_succ, List.getElem?_cons_zero]; rfl)) (fun K hK => ?_) AllReadyH.nil
    refine wp_store_part 24 _ _ rfl L 3 (.slice (some ⟨g1, 0, none⟩) (out.length + 1) cap1) #[.slice (some ⟨g1, 0, none⟩) (out.length + 1) cap1] rfl rfl rfl 26 _ HL2.out (by kernel_rfl) (by simp) (by simp [Value.oneCell']) #[.string g, .string a, .string u, .slice (some ⟨g1, 0, none⟩) (out.length + 1) cap1] rfl ?_
    have hL3 : (w2.setRow L #[.string g, .string a, .string u, .slice (some ⟨g1, 0, none⟩) (out.length + 1) cap1]).heap[L]? = some (mkL g a u (.slice (some ⟨g1, 0, none⟩) (out.length + 1) cap1)) := setRow_heap w2 L _ _ _ _ HL2.out
    have h3 : w2.grownBy (w2.setRow L #[.string g, .string a, .string u, .slice (some ⟨g1, 0, none⟩) (out.length + 1) cap1]) (some L) := ⟨rfl, rfl, rfl, by simp, fun k _ hk => setRow_other w2 L k _ (fun e => hk (by rw [e]))⟩
    have hne : ∀ k, k < (w.alloc (.cells #[.string pA.g, .string pA.a, .string pA.t, .string pA.c, .string pA.v, .int .i64 pA.sc] 48)).drew.heap.size → v.ownBlock ≠ some k → (Value.slice (some ⟨g1, 0, none⟩) (out.length + 1) cap1).ownBlock ≠ some k := fun k hk h1 h2 => by
      have e1 : g1 = k := Option.some.inj h2
      subst e1
      rcases hat2 with h | h
      · exact h1 h
      · omega
    have HFIN := Lib.hid (HGI.out.add HV.out HRV.out HOWN.out hba ho2 hg2 hne h3 hL3)
    have HFF := Lib.hid (FitAt.add HFI.out HZ.out (fun k hk => HLE.out k (by rw [← HRV.out]; exact hk)) hba (by rw [HRV.out]; exact hg2) h3)
    refine hK.out _ _ (HKC.out _ (below_setRow (hb2.mono (by omega)) (Nat.le_refl _))) (fun hHeld => ?_)
    clear hK K
    try simp only [Act.put, List.setIfInBounds_toArray, List.set_cons_zero, List.set_cons_succ]
    refine wpAnyH_done (by kernel_rfl) ?_ _
    clear hba hg2 hne h3 hL3 ho2 hlt2 hat2 hb2 hcL hcL2
    go_wp2
    go_end0
    refine ⟨rfl, _, ?_, HFF.out, HFIN.out.2⟩
    have h := HFIN.out.1
    rw [← rowN_snoc] at h
    simpa using h
  · go_simp
    refine hK.out _ _ (HKC.out _ (hHeld.2.alloc (by have := HZ.out; simp; omega) _)) (fun hHeld => ?_)
    clear hK K
    try simp only [Act.put, List.setIfInBounds_toArray, List.set_cons_zero, List.set_cons_succ]
    refine wpAnyH_ready (rs := [1]) (by kernel_rfl) (by simp) ?_
    refine AllReadyH.cons (by (simp only [List.getElem?_toArray, List.getElem?_cons_succ, List.getElem?_cons_zero]; rfl)) (fun K hK => ?_) AllReadyH.nil
    go_simp
    refine hK.out _ _ (HKC.out _ hHeld.2) (fun hHeld => ?_)
    clear hK K
    try simp only [Act.put, List.setIfInBounds_toArray, List.set_cons_zero, List.set_cons_succ]
    refine wpAnyH_ready (rs := [8]) (by kernel_rfl) (by simp) ?_
    refine AllReadyH.cons (by (simp only [List.getElem?_toArray, List.getElem?_cons_succ, List.getElem?_cons_zero]; rfl)) (fun K hK => ?_) AllReadyH.nil
    obtain ⟨i0, hi0, hz0, hs0, hb0⟩ := info_parts pn_info
    refine wp_append_lies _ _ _ 24 rfl (L + 2) 48 i0 _ 6 88 Try.underlying24 hi0 hz0 hs0 hb0 rfl (by decide) v out.length (rowN out) rfl (World.ownsRow.drew (HOWN.out.alloc _)) ⟨w.heap.size, 0, none⟩ 1 1 (pnCells pA) (by simp [Act.eval]) rfl ?_ (by simp [pnCells, Value.oneCell']) (by omega) (by have := HLN.out; simp only [maxLen]; omega) (by have := HLN.out; omega) (by have := HZ.out; simp; omega) _ rfl ?_
    · intro j y hj
      show (w.alloc (.cells #[.string pA.g, .string pA.a, .string pA.t, .string pA.c, .string pA.v, .int .i64 pA.sc] 48)).cell? _ = some y
      rw [add_off, cell_of_row _ w.heap.size j _ 48 (0, 0) (heap_alloc_new w _)]
      have : (#[Value.string pA.g, .string pA.a, .string pA.t, .string pA.c, .string pA.v, .int .i64 pA.sc] : Array Value) = (pnCells pA).toArray := rfl
      rw [this]
      simpa using hj
    intro g1 cap1 w2 ho2 hg2 hat2 hlt2
    have hba : Below w.heap.size w (w.alloc (.cells #[.string pA.g, .string pA.a, .string pA.t, .string pA.c, .string pA.v, .int .i64 pA.sc] 48)).drew := ((Below.refl w.heap.size w).alloc (Nat.le_refl _) _).drew
    have hb2 : Below (L + 2) w w2 := ((hba.mono HZ.out).grown hg2 (by have := HZ.out; simp; omega) HLE.out)
    refine hK.out _ _ (HKC.out _ (hb2.mono (by omega))) (fun hHeld => ?_)
    clear hK K
    try simp only [Act.put, List.setIfInBounds_toArray, List.set_cons_zero, List.set_cons_succ]
    have hL2 : w2.heap[L]? = some (Obj.cells #[.string g, .string a, .string u, v] 26 (0, 0)) := (hb2.block L (by omega)).trans HV.out
    have HL2 := Lib.hid hL2
    clear hL2
    refine wpAnyH_take (i := 9) (v := ?_) (by (simp only [List.getElem?_toArray, List.getElem?_cons_succ, List.getElem?_cons_zero]; rfl)) (by kernel_rfl) (by kernel_rfl) (by kernel_rfl) (by intro _ _ _ h; exact h) (Or.inl ⟨by rfl, ?_⟩) (by assumption) ?_
    rotate_left
    · (intro w hSw; (try dsimp only at hSw); go_simp; try (with_reducible rfl))
    simp only [Act.put, List.setIfInBounds_toArray, List.set_cons_zero, List.set_cons_succ]
    refine wpAnyH_ready (rs := [10]) (by kernel_rfl) (by simp) ?_
    refine AllReadyH.cons (by (simp only [List.getElem?_toArray, List.getElem?_cons_succ, List.getElem?_cons_zero]; rfl)) (fun K hK => ?_) AllReadyH.nil
    refine wp_store_part 24 _ _ rfl L 3 (.slice (some ⟨g1, 0, none⟩) (out.length + 1) cap1) #[.slice (some ⟨g1, 0, none⟩) (out.length + 1) cap1] rfl rfl rfl 26 _ HL2.out (by kernel_rfl) (by simp) (by simp [Value.oneCell']) #[.string g, .string a, .string u, .slice (some ⟨g1, 0, none⟩) (out.length + 1) cap1] rfl ?_
    have hL3 : (w2.setRow L #[.string g, .string a, .string u, .slice (some ⟨g1, 0, none⟩) (out.length + 1) cap1]).heap[L]? = some (mkL g a u (.slice (some ⟨g1, 0, none⟩) (out.length + 1) cap1)) := setRow_heap w2 L _ _ _ _ HL2.out
    have h3 : w2.grownBy (w2.setRow L #[.string g, .string a, .string u, .slice (some ⟨g1, 0, none⟩) (out.length + 1) cap1]) (some L) := ⟨rfl, rfl, rfl, by simp, fun k _ hk => setRow_other w2 L k _ (fun e => hk (by rw [e]))⟩
    have hne : ∀ k, k < (w.alloc (.cells #[.string pA.g, .string pA.a, .string pA.t, .string pA.c, .string pA.v, .int .i64 pA.sc] 48)).drew.heap.size → v.ownBlock ≠ some k → (Value.slice (some ⟨g1, 0, none⟩) (out.length + 1) cap1).ownBlock ≠ some k := fun k hk h1 h2 => by
      have e1 : g1 = k := Option.some.inj h2
      subst e1
      rcases hat2 with h | h
      · exact h1 h
      · omega
    have HFIN := Lib.hid (HGI.out.add HV.out HRV.out HOWN.out hba ho2 hg2 hne h3 hL3)
    have HFF := Lib.hid (FitAt.add HFI.out HZ.out (fun k hk => HLE.out k (by rw [← HRV.out]; exact hk)) hba (by rw [HRV.out]; exact hg2) h3)
    refine hK.out _ _ (HKC.out _ (below_setRow (hb2.mono (by omega)) (Nat.le_refl _))) (fun hHeld => ?_)
    clear hK K
    try simp only [Act.put, List.setIfInBounds_toArray, List.set_cons_zero, List.set_cons_succ]
    refine wpAnyH_done (by kernel_rfl) ?_ _
    clear hba hg2 hne h3 hL3 ho2 hlt2 hat2 hb2 hcL hcL2
    go_wp2
    go_end0
    refine ⟨rfl, _, ?_, HFF.out, HFIN.out.2⟩
    have h := HFIN.out.1
    rw [← rowN_snoc] at h
    simpa using h
end Go.Proofs.Ytoibanffaebllaa
