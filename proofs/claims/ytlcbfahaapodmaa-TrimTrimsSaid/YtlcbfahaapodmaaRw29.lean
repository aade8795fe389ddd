/-
  Layer 29: run, the walk. Own work.
-/
import Derived.Test.YtlcbfahaapodmaaRu29
import Derived.Deep.LoopGhost
namespace Go.Proofs.Ytlcbfahaapodmaa
set_option linter.unusedVariables false
set_option linter.unusedSimpArgs false
open Go.RowKit

theorem StepsM.snoc {vars : Nat} {s t u : TS} (h : StepsM vars s t) (he : t.en = false) (hs : stepM vars t = some u) : StepsM vars s u := by
  induction h with
  | refl s => exact .next _ _ _ he hs (.refl _)
  | next s a t h1 h2 _ ih => exact .next _ _ _ h1 h2 (ih he hs)
theorem abs_en (S : Ws) : (absW S).en = S.en := rfl
section
variable {w : World} {n0 : Nat} {M : Wm} {S : Ws}
set_option maxHeartbeats 1000000 in
set_option maxRecDepth 100000 in
theorem run29_any (h : KW w n0 M S noW) (hb : BN S) :
    Calls Try.prog 18 #[.pointer (some ⟨M.K, 0, none⟩)] w fun e w' => e = .returned (.tuple #[]) ∧ ∃ M' S', KW w' n0 M' S' noW ∧ Below n0 w w' ∧ M'.K = M.K ∧ S'.vars = S.vars ∧ StepsM S.vars (absW S) (absW S') ∧ Done S.vars (absW S') ∧ (S'.en = false → Sz S') := by
  have hno : ∀ t, ¬ noW t := fun t h => h
  have HB := Lib.hid hb
  have hbt : M.tag w.heap.size = .free := h.fresh _ (Nat.le_refl _)
  obtain ⟨fs, hfs⟩ : ∃ fs : Array Value, fs = #[.func (.func 23) #[.pointer (some ⟨M.K, 0, none⟩)] #[], .func (.func 24) #[.pointer (some ⟨M.K, 0, none⟩)] #[], .func (.func 25) #[.pointer (some ⟨M.K, 0, none⟩)] #[], .func (.func 26) #[.pointer (some ⟨M.K, 0, none⟩)] #[], .func (.func 27) #[.pointer (some ⟨M.K, 0, none⟩)] #[], .func (.func 28) #[.pointer (some ⟨M.K, 0, none⟩)] #[]] := ⟨_, rfl⟩
  have HK := Lib.hid (h.alloc (.cells fs 26))
  have HBW := Lib.hid (show Below n0 w (w.alloc (.cells fs 26)) from (Below.refl n0 w).alloc h.base _)
  have hsz : w.heap.size < (w.alloc (.cells fs 26)).heap.size := by simp
  have HH := Lib.hid (show (w.alloc (.cells fs 26)).heap[w.heap.size]? = some (.cells fs 26 (0, 0)) from heap_alloc_new _ _)
  clear h hb
  go_enter Try.func18, Try.ntmps18
  go_upto_region 2 with fail
  rw [← hfs]
  generalize w.alloc (.cells fs 26) = W1 at HK HBW hsz HH ⊢
  generalize hBB : w.heap.size = B at hbt hsz HH ⊢
  go_loopg [17] (sizeS (absW S)) (fun k z wr => ∃ M' S', KW wr n0 M' S' noW ∧ FrW M M' frT W1 wr ∧ S'.vars = S.vars ∧ StepsM S.vars (absW S) (absW S') ∧ (S'.en = true ∨ S'.en = false ∧ (BN S' ∨ PB S')) ∧ sizeS (absW S') ≤ k)
  case atStart => exact ⟨M, S, HK.out, FrW.refl _ _ _, rfl, .refl _, .inr ⟨HB.out.en, .inl HB.out⟩, Nat.le_refl _⟩
  case round =>
    obtain ⟨M', S', hkk, hff, hv, hst, hgd, hk⟩ := hrel
    have hMK : M'.K = M.K := hff.K
    have HKK := Lib.hid hkk
    have HFF := Lib.hid hff
    have HST := Lib.hid hst
    have hq4 : wr.cell? ⟨M.K, 4, none⟩ = some (.bool S'.en) := by rw [← hMK]; exact hkk.cEn (hno _)
    rcases hgd with he | ⟨he, hgd⟩
    · rw [he] at hq4
      have HBN := Lib.hid (show Below n0 w wr from HBW.out.trans (hff.below (by simp [frT]) HK.out))
      clear hkk hff hst
      go_wp2
      go_end0
      exact ⟨rfl, M', S', HKK.out, HBN.out, hMK, hv, HST.out, .inl he, fun e => absurd (he.symm.trans e) (by simp)⟩
    · rw [he] at hq4
      have HG := Lib.hid (show Stg 0 S' S' from ⟨rfl, rfl, he, hgd.elim (fun h => .inr ⟨by omega, h, fun h => by omega⟩) .inl, fun h => by omega, fun h => by omega, fun h => by omega, fun h => by omega⟩)
      have hbk : wr.heap[B]? = some (.cells fs 26 (0, 0)) := (hff.block B hsz (by rw [hbt]; simp [frT])).trans HH.out
      have hcl : ∀ i : Nat, wr.cell? ⟨B, i, none⟩ = fs[i]? := fun i => cell_of_row wr B i fs _ (0, 0) hbk
      have hbt2 : M'.tag B = .free := (hff.tags B hsz).trans hbt
      have hbs2 : B < wr.heap.size := Nat.lt_of_lt_of_le hsz hff.size
      have hct := contains29_any (B := B) hkk HG.out hbt2 hbs2
      rw [hMK] at hct
      have HCT := Lib.hid (hct (by rw [hcl, hfs]; rfl) (by rw [hcl, hfs]; rfl) (by rw [hcl, hfs]; rfl) (by rw [hcl, hfs]; rfl) (by rw [hcl, hfs]; rfl) (by rw [hcl, hfs]; rfl))
      clear hkk hff hst hbk hcl hct
      go_wp2_with fail
      refine HCT.out.mono ?_
      rintro e w5 ⟨b, M5, S5, rfl, k1, k2, k3, k4⟩
      have HK1 := Lib.hid k1
      have HK2 := Lib.hid (HFF.out.trans k2)
      have hM5 : M5.K = M.K := k2.K.trans hMK
      rcases k4 with ⟨rfl, k4, k5⟩ | ⟨rfl, k4⟩
      · have HS5 := Lib.hid (show StepsM S.vars (absW S) (absW S5) from HST.out.snoc he (by rw [← hv]; exact k4))
        have hlt := stepM_lt (vars := S'.vars) (s := absW S') he k4
        have HK5 := Lib.hid k5
        have hv5 : S5.vars = S.vars := k3.trans hv
        clear k1 k2 k4 k5
        go_wp2_with fail
        go_roundg (sizeS (absW S5))
        case measure => omega
        case rel => exact ⟨M5, S5, HK1.out, HK2.out, hv5, HS5.out, HK5.out, Nat.le_refl _⟩
      · have HD := Lib.hid (show StepsM S.vars (absW S) (absW S5) ∧ Done S.vars (absW S5) ∧ (S5.en = false → Sz S5) from by
          obtain ⟨p1, p2, p3, p4, _, _, _, p8⟩ := k4
          have hsz : Sz S5 := p4.elim (fun h => h.gd.sz) (fun h => h.2.1.sz)
          rw [p2]
          exact ⟨HST.out, .inr (by rw [← hv]; exact p8 (by omega)), fun _ => hsz⟩)
        have HBN := Lib.hid (show Below n0 w w5 from HBW.out.trans (HK2.out.below (by simp [frT]) HK.out))
        have hv5 : S5.vars = S.vars := k3.trans hv
        clear k1 k2 k4
        go_wp2
        go_end0
        exact ⟨rfl, M5, S5, HK1.out, HBN.out, hM5, hv5, HD.out⟩
end
end Go.Proofs.Ytlcbfahaapodmaa
