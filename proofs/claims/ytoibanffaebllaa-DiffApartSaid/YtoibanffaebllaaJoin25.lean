/-
  Layer 25: the contract of diff.Join. Own work.
-/
import Derived.Test.YtoibanffaebllaaMeetJ25b
import Derived.Test.YtoibanffaebllaaBesideJ25
import Derived.Test.YtoibanffaebllaaApply25
namespace Go.Proofs.Ytoibanffaebllaa
set_option linter.unusedVariables false
set_option linter.unusedSimpArgs false
open Go.RowKit

theorem mrgJ_len : ∀ (l m : List Ed), (mrg Ed.key Ed.key joF l m).length ≤ l.length + m.length := fun l m => mrg_len l m
def InvJ (A E : List Ed) (L : Nat) (w0 : World) (i k : Nat) (r : Option Nat) (w : World) : Prop :=
  ∃ out f, out ++ mrg Ed.key Ed.key joF (A.drop i) (E.drop k) = join A E ∧ (f && allB Ed.key Ed.key togB (A.drop i) (E.drop k)) = togs A E ∧ GI L (L + 2) mkE 50 18 w0 out.length (rowE out) r w ∧ FitAt L f w
theorem InvJ.len {A E : List Ed} {i k : Nat} {out : List Ed} (h : out ++ mrg Ed.key Ed.key joF (A.drop i) (E.drop k) = join A E) (hA : A.length ≤ 1000000) (hE : E.length ≤ 1000000) : out.length ≤ 2000000 := by
  have h1 : (join A E).length ≤ A.length + E.length := mrgJ_len A E
  have h2 := congrArg List.length h
  simp only [List.length_append] at h2
  omega
theorem besideJoin (A E : List Ed) (hA : A.length ≤ 1000000) (hE : E.length ≤ 1000000) (HA HE L : Nat) (w0 w : World) (vA vE : Value) (hcA : w0.cell? ⟨HA, 0, none⟩ = some vA) (hrA : RdE w0 vA A) (hcE : w0.cell? ⟨HE, 0, none⟩ = some vE) (hrE : RdE w0 vE E)
    (h0 : GI L (L + 2) mkE 50 18 w0 0 [] none w) (hf0 : FitAt L true w) :
    Calls Try.prog 27 #[.int .i64 A.length, .int .i64 E.length, .func (.func 39) #[] #[.pointer (some ⟨HA, 0, none⟩)], .func (.func 40) #[] #[.pointer (some ⟨HE, 0, none⟩)], .func (.func 41) #[] #[.pointer (some ⟨L, 0, none⟩), .pointer (some ⟨HA, 0, none⟩), .pointer (some ⟨HE, 0, none⟩), .pointer (some ⟨L + 1, 0, none⟩)]] w (BesP (InvJ A E L w0) A.length E.length) := by
  have hHE : HE < w0.heap.size := World.block_lt_of_cell? w0 _ hcE
  have hHA : HA < w0.heap.size := World.block_lt_of_cell? w0 _ hcA
  have hcw : ∀ {w : World}, Below w0.heap.size w0 w → w.cell? ⟨HE, 0, none⟩ = some vE := fun hb => (hb.cell (p := ⟨HE, 0, none⟩) hHE).trans hcE
  have hcv : ∀ {w : World}, Below w0.heap.size w0 w → w.cell? ⟨HA, 0, none⟩ = some vA := fun hb => (hb.cell (p := ⟨HA, 0, none⟩) hHA).trans hcA
  refine besideJ_any A.length E.length hA hE (keyEd A) (keyEd E) (.pointer (some ⟨HA, 0, none⟩)) (.pointer (some ⟨HE, 0, none⟩)) _ _ _ _ (L + 2) (InvJ A E L w0) ?_ ?_ ?_ ?_ ?_ ?_ none w h0.bs (fun x h => by cases h) ⟨[], true, rfl, rfl, h0, hf0⟩
  · rintro i k r w w' ⟨out, f, h1, h2, h3, h4⟩ hf
    exact ⟨out, f, h1, h2, h3.stab hf, h4.frm h3.bs hf⟩
  · rintro i k r w hi ⟨out, f, h1, h2, h3, h4⟩
    obtain ⟨p, hp⟩ : ∃ p, A[i]? = some p := ⟨_, List.getElem?_eq_getElem hi⟩
    have hz := h3.sz
    rw [keyEd_is hp]
    exact keyJ1_any i HA vA A p w (hcv (by rw [hz]; exact h3.b)) (hrA.below h3.b (by omega)) hp (by omega)
  · rintro i k r w hk ⟨out, f, h1, h2, h3, h4⟩
    obtain ⟨p, hp⟩ : ∃ p, E[k]? = some p := ⟨_, List.getElem?_eq_getElem hk⟩
    have hz := h3.sz
    rw [keyEd_is hp]
    exact keyJ2_any k HE vE E p w (hcw (by rw [hz]; exact h3.b)) (hrE.below h3.b (by omega)) hp (by omega)
  · rintro i k r w hi hk hc ⟨out, f, h1, h2, h3, h4⟩
    obtain ⟨p, hp⟩ : ∃ p, A[i]? = some p := ⟨_, List.getElem?_eq_getElem hi⟩
    have hlt : ∀ y, E[k]? = some y → kcmp (Ed.key p) (Ed.key y) < 0 := fun y hy => by
      have := hc (List.getElem?_eq_some_iff.1 hy).1
      rwa [keyEd_is hp, keyEd_is hy] at this
    refine (meetJ_left HA _ L w0 w out r f h3 h4 (InvJ.len h1 hA hE) vA A p i hp (by omega) hcA hrA).mono ?_
    rintro e w2 ⟨rfl, r', g1, g2, g3⟩
    refine ⟨rfl, r', ⟨_, _, ?_, ?_, g1, g2⟩, g3⟩
    · rw [← h1, mrg_left hp hlt, List.append_assoc]; rfl
    · rw [← h2, all_left hp hlt]; rfl
  · rintro i k r w hi hk hc ⟨out, f, h1, h2, h3, h4⟩
    obtain ⟨p, hp⟩ : ∃ p, E[k]? = some p := ⟨_, List.getElem?_eq_getElem hk⟩
    have hlt : ∀ x, A[i]? = some x → 0 < kcmp (Ed.key x) (Ed.key p) := fun y hy => by
      have := hc (List.getElem?_eq_some_iff.1 hy).1
      rwa [keyEd_is hp, keyEd_is hy] at this
    refine (meetJ_right HE _ L w0 w out r f h3 h4 (InvJ.len h1 hA hE) vE E p k hp (by omega) hcE hrE).mono ?_
    rintro e w2 ⟨rfl, r', g1, g2, g3⟩
    refine ⟨rfl, r', ⟨_, _, ?_, ?_, g1, g2⟩, g3⟩
    · rw [← h1, mrg_right hp hlt, List.append_assoc]; rfl
    · rw [← h2, all_right hp hlt]; rfl
  · rintro i k r w hi hk hc ⟨out, f, h1, h2, h3, h4⟩
    obtain ⟨⟨ek, eh, es, eo, en⟩, hpA⟩ : ∃ p, A[i]? = some p := ⟨_, List.getElem?_eq_getElem hi⟩
    obtain ⟨⟨fk, fh, fs, fo, fn⟩, hp⟩ : ∃ p, E[k]? = some p := ⟨_, List.getElem?_eq_getElem hk⟩
    have hz : kcmp (Ed.key ⟨ek, eh, es, eo, en⟩) (Ed.key ⟨fk, fh, fs, fo, fn⟩) = 0 := by rwa [keyEd_is hpA, keyEd_is hp] at hc
    refine (meetJ_both HA HE L w0 w out r f h3 h4 (InvJ.len h1 hA hE) vA A ek eh es eo en i hpA (by omega) hcA hrA vE E fk fh fs fo fn k hp (by omega) hcE hrE).mono ?_
    rintro e w2 ⟨rfl, r', g1, g2, g3⟩
    refine ⟨rfl, r', ⟨_, _, ?_, ?_, g1, g2⟩, g3⟩
    · rw [← h1, mrg_both hpA hp hz, List.append_assoc]
    · rw [← h2, all_both hpA hp hz, Bool.and_assoc]
/-- what Join answers -/
def JoinP (ok : Bool) (m : List Ed) (w : World) (e : Ending) (w' : World) : Prop :=
  (ok = true ∧ ∃ v, e = .returned (.tuple #[v, .bool true]) ∧ RdE w' v m ∧ Below w.heap.size w w') ∨
  (ok = false ∧ e = .returned (.tuple #[.slice none 0 0, .bool false]) ∧ Below w.heap.size w w')
theorem GI.startJ {L : Nat} {w : World} (hL : w.heap.size = L) :
    GI L (L + 2) mkE 50 18 w 0 [] none ((w.alloc (.cells #[.slice none 0 0] 29)).alloc (.cells #[.bool true] 4)) :=
  ⟨hL, by omega, by rw [← hL]; exact ((Below.refl _ _).alloc (Nat.le_refl _) _).alloc (by simp) _, by simp [hL], .slice none 0 0, by rw [← hL]; exact (Below.heap_alloc _ _ _ (by simp)).trans (heap_alloc_new w _), World.ownsRow_nil _ _ _ _, rfl⟩
def joinOk (l m : List Ed) : Bool := mayEds l && (mayEds m && togs l m)
set_option maxRecDepth 100000 in
set_option maxHeartbeats 4000000 in
theorem Join_any (v1 v2 : Value) (A E : List Ed) (hAl : A.length ≤ 1000000) (hEl : E.length ≤ 1000000) (w : World) (hrA : RdE w v1 A) (hrE : RdE w v2 E) :
    Calls Try.prog 20 #[v1, v2] w (JoinP (joinOk A E) (join A E) w) := by
  obtain ⟨pa1, pc1, rfl⟩ := hrA.shape
  obtain ⟨pa2, pc2, rfl⟩ := hrE.shape
  have hma := fun w' hr => MayE_any (.slice pa1 A.length pc1) A (by omega) w' hr
  have hme := fun w' hr => MayE_any (.slice pa2 E.length pc2) E (by omega) w' hr
  have hok : joinOk A E = (mayEds A && (mayEds E && togs A E)) := rfl
  generalize joinOk A E = OK at hok ⊢
  generalize mayEds A = b1 at hma hok
  generalize mayEds E = b2 at hme hok
  have hb0 : Below w.heap.size w ((w.alloc (.cells #[.slice pa1 A.length pc1] 29)).alloc (.cells #[.slice pa2 E.length pc2] 29)) := ((Below.refl w.heap.size w).alloc (Nat.le_refl _) _).alloc (by simp) _
  have hk1 : ((w.alloc (.cells #[.slice pa1 A.length pc1] 29)).alloc (.cells #[.slice pa2 E.length pc2] 29)).cell? ⟨w.heap.size, 0, none⟩ = some (.slice pa1 A.length pc1) := by simp [go_sem]
  have hk2 : ((w.alloc (.cells #[.slice pa1 A.length pc1] 29)).alloc (.cells #[.slice pa2 E.length pc2] 29)).cell? ⟨w.heap.size + 1, 0, none⟩ = some (.slice pa2 E.length pc2) := by simp [go_sem]
  have HMA := Lib.hid hma
  have HME := Lib.hid hme
  have HOK := Lib.hid hok
  have HRA := Lib.hid (hrA.below hb0 (Nat.le_refl _))
  have HRE := Lib.hid (hrE.below hb0 (Nat.le_refl _))
  have HB0 := Lib.hid hb0
  have HAL := Lib.hid hAl
  have HEL := Lib.hid hEl
  clear hma hme hok hrA hrE hb0 hAl hEl
  go_enter Try.func20, Try.ntmps20
  go_upto_region 1 with fail
  generalize ((w.alloc (.cells #[.slice pa1 A.length pc1] 29)).alloc (.cells #[.slice pa2 E.length pc2] 29)) = w1 at hk1 hk2 HRA HRE HB0 ⊢
  have HK1 := Lib.hid hk1
  have HK2 := Lib.hid hk2
  go_wp2_with fail
  refine (HMA.out _ HRA.out).mono ?_
  rintro e w2 ⟨rfl, hb2⟩
  have HB2 := Lib.hid hb2
  clear hk1 hk2
  cases b1
  · clear hb2
    go_wp2
    go_ret2
    exact .inr ⟨by rw [HOK.out]; rfl, rfl, HB0.out.trans (HB2.out.mono HB0.out.size)⟩
  have hk22 : w2.cell? ⟨w.heap.size + 1, 0, none⟩ = some (.slice pa2 E.length pc2) := (hb2.cell (World.block_lt_of_cell? w1 _ HK2.out)).trans HK2.out
  clear hb2
  go_wp2_with fail
  refine (HME.out _ (HRE.out.below HB2.out (Nat.le_refl _))).mono ?_
  rintro e w3 ⟨rfl, hb3⟩
  have HB3 := Lib.hid (HB2.out.trans (hb3.mono HB2.out.size))
  clear hb3 hk22 HB2
  cases b2
  · go_wp2
    go_ret2
    exact .inr ⟨by rw [HOK.out]; rfl, rfl, HB0.out.trans (HB3.out.mono HB0.out.size)⟩
  have hca : w3.cell? ⟨w.heap.size, 0, none⟩ = some (.slice pa1 A.length pc1) := (HB3.out.cell (World.block_lt_of_cell? w1 _ HK1.out)).trans HK1.out
  have hce : w3.cell? ⟨w.heap.size + 1, 0, none⟩ = some (.slice pa2 E.length pc2) := (HB3.out.cell (World.block_lt_of_cell? w1 _ HK2.out)).trans HK2.out
  have HBE := Lib.hid (besideJoin A E HAL.out HEL.out w.heap.size (w.heap.size + 1) w3.heap.size w3 _ _ _ hca (HRA.out.below HB3.out (Nat.le_refl _)) hce (HRE.out.below HB3.out (Nat.le_refl _)) (GI.startJ rfl) (FitAt.start rfl _ true))
  have hb34 : Below w3.heap.size w3 (w3.alloc (.cells #[.slice none 0 0] 29)) := (Below.refl _ _).alloc (Nat.le_refl _) _
  have hb35 : Below w3.heap.size w3 ((w3.alloc (.cells #[.slice none 0 0] 29)).alloc (.cells #[.bool true] 4)) := hb34.alloc hb34.size _
  have hca5 := (hb35.cell (p := ⟨w.heap.size, 0, none⟩) (World.block_lt_of_cell? w3 _ hca)).trans hca
  have hce5 := (hb35.cell (p := ⟨w.heap.size + 1, 0, none⟩) (World.block_lt_of_cell? w3 _ hce)).trans hce
  clear hb34 hb35 hce hca
  go_wp2_with fail
  refine HBE.out.mono ?_
  rintro e w6 ⟨rfl, r, out, f, hm, hfits, hgi, hft⟩
  have hout : out = join A E := by rw [← hm, List.drop_length, List.drop_length, mrg, List.append_nil]
  have hff : f = togs A E := by rw [← hfits, List.drop_length, List.drop_length, allB, Bool.and_true]
  subst hout
  obtain ⟨v, hv, hown, hrv⟩ := hgi.row
  have HRD := Lib.hid (show RdE w6 v (join A E) from RdE.of_own hown)
  have hcf : w6.cell? ⟨w3.heap.size + 1, 0, none⟩ = some (.bool f) := by rw [cell_of_row w6 _ 0 _ _ (0, 0) hft]; rfl
  have hcl : w6.cell? ⟨w3.heap.size, 0, none⟩ = some v := by rw [cell_of_row w6 _ 0 _ _ (0, 0) hv]; rfl
  have HB6 := Lib.hid (HB0.out.trans ((HB3.out.trans (hgi.b.mono HB3.out.size)).mono HB0.out.size))
  have HFF := Lib.hid hff
  clear hm hfits hgi hft hff hv hown hrv hce5 hca5
  cases f
  · go_wp2
    go_ret2
    exact .inr ⟨by rw [HOK.out, ← HFF.out]; rfl, rfl, HB6.out⟩
  · go_wp2
    go_ret2
    exact .inl ⟨by rw [HOK.out, ← HFF.out]; rfl, _, rfl, HRD.out, HB6.out⟩
end Go.Proofs.Ytoibanffaebllaa
