/-
  Layer 25: the contract of diff.Edits. Own work.
-/
import Derived.Test.YtoibanffaebllaaMeetE25b
import Derived.Test.YtoibanffaebllaaClo25
import Derived.Test.YtoibanffaebllaaBeside25
namespace Go.Proofs.Ytoibanffaebllaa
set_option linter.unusedVariables false
set_option linter.unusedSimpArgs false
open Go.RowKit

def keyAt (l : List Pn) (i : Nat) : K4 := ((l[i]?).getD zP).key
theorem keyAt_is {l : List Pn} {i : Nat} {p : Pn} (h : l[i]? = some p) : keyAt l i = p.key := by unfold keyAt; rw [h]; rfl
theorem mrg_left {α β γ : Type} {ka : α → K4} {kb : β → K4} {f : Option α → Option β → Option γ} {l : List α} {m : List β} {i k : Nat} {x : α} (hx : l[i]? = some x) (h : ∀ y, m[k]? = some y → kcmp (ka x) (kb y) < 0) :
    mrg ka kb f (l.drop i) (m.drop k) = (f (some x) none).toList ++ mrg ka kb f (l.drop (i + 1)) (m.drop k) := by
  obtain ⟨hi, hxi⟩ := List.getElem?_eq_some_iff.1 hx
  rw [List.drop_eq_getElem_cons hi, hxi]
  cases hm : m.drop k with
  | nil => rw [mrg]
  | cons y r =>
    have hy : m[k]? = some y := by
      have := congrArg (fun l => l[0]?) hm
      simpa using this
    rw [mrg, if_pos (h y hy)]
theorem mrg_right {α β γ : Type} {ka : α → K4} {kb : β → K4} {f : Option α → Option β → Option γ} {l : List α} {m : List β} {i k : Nat} {y : β} (hy : m[k]? = some y) (h : ∀ x, l[i]? = some x → 0 < kcmp (ka x) (kb y)) :
    mrg ka kb f (l.drop i) (m.drop k) = (f none (some y)).toList ++ mrg ka kb f (l.drop i) (m.drop (k + 1)) := by
  obtain ⟨hk, hyk⟩ := List.getElem?_eq_some_iff.1 hy
  rw [List.drop_eq_getElem_cons hk, hyk]
  cases hm : l.drop i with
  | nil => rw [mrg]
  | cons x r =>
    have hx : l[i]? = some x := by
      have := congrArg (fun l => l[0]?) hm
      simpa using this
    have := h x hx
    rw [mrg, if_neg (by omega), if_pos this]
theorem mrg_both {α β γ : Type} {ka : α → K4} {kb : β → K4} {f : Option α → Option β → Option γ} {l : List α} {m : List β} {i k : Nat} {x : α} {y : β} (hx : l[i]? = some x) (hy : m[k]? = some y) (h : kcmp (ka x) (kb y) = 0) :
    mrg ka kb f (l.drop i) (m.drop k) = (f (some x) (some y)).toList ++ mrg ka kb f (l.drop (i + 1)) (m.drop (k + 1)) := by
  obtain ⟨hi, hxi⟩ := List.getElem?_eq_some_iff.1 hx
  obtain ⟨hk, hyk⟩ := List.getElem?_eq_some_iff.1 hy
  rw [List.drop_eq_getElem_cons hi, hxi, List.drop_eq_getElem_cons hk, hyk, mrg, if_neg (by omega), if_neg (by omega)]
/-- what was gathered at the places i and k -/
def InvE (A B : List Pn) (L : Nat) (w0 : World) (i k : Nat) (r : Option Nat) (w : World) : Prop :=
  ∃ out, out ++ mrg Pn.key Pn.key edF (A.drop i) (B.drop k) = edits A B ∧ GI L (L + 1) mkE 50 18 w0 out.length (rowE out) r w
theorem InvE.len {A B : List Pn} {L : Nat} {w0 : World} {i k : Nat} {r : Option Nat} {w : World} {out : List Ed} (h : out ++ mrg Pn.key Pn.key edF (A.drop i) (B.drop k) = edits A B) (hA : A.length ≤ 1000000) (hB : B.length ≤ 1000000) : out.length ≤ 2000000 := by
  have h1 := edits_len A B
  have h2 := congrArg List.length h
  simp only [List.length_append] at h2
  omega
/-- beside, for Edits -/
theorem besideEdits (A B : List Pn) (hA : A.length ≤ 1000000) (hB : B.length ≤ 1000000) (HA HB L : Nat) (w0 w : World) (gA aA vA gB aB vB : ByteArray) (pvA pvB : Value) (hlA : LkIn w0 HA gA aA vA pvA) (hrA : RdN w0 pvA A) (hlB : LkIn w0 HB gB aB vB pvB) (hrB : RdN w0 pvB B)
    (h0 : GI L (L + 1) mkE 50 18 w0 0 [] none w) :
    Calls Try.prog 27 #[.int .i64 A.length, .int .i64 B.length, .func (.func 25) #[] #[.pointer (some ⟨HA, 0, none⟩)], .func (.func 26) #[] #[.pointer (some ⟨HB, 0, none⟩)], .func (.func 28) #[] #[.pointer (some ⟨HA, 0, none⟩), .pointer (some ⟨HB, 0, none⟩), .pointer (some ⟨L, 0, none⟩)]] w (BesP (InvE A B L w0) A.length B.length) := by
  refine besideE_any A.length B.length hA hB (keyAt A) (keyAt B) (.pointer (some ⟨HA, 0, none⟩)) (.pointer (some ⟨HB, 0, none⟩)) _ _ _ (L + 1) (InvE A B L w0) ?_ ?_ ?_ ?_ ?_ ?_ none w h0.bs (fun x h => by cases h) ⟨[], rfl, h0⟩
  · rintro i k r w w' ⟨out, h1, h2⟩ hf
    exact ⟨out, h1, h2.stab hf⟩
  · rintro i k r w hi ⟨out, h1, h2⟩
    obtain ⟨p, hp⟩ : ∃ p, A[i]? = some p := ⟨_, List.getElem?_eq_getElem hi⟩
    have hz := h2.sz
    rw [keyAt_is hp]
    exact keyE1_any i HA gA aA vA pvA A p w (hlA.below h2.b (by omega)) (hrA.below h2.b (by omega)) hp (by omega)
  · rintro i k r w hk ⟨out, h1, h2⟩
    obtain ⟨p, hp⟩ : ∃ p, B[k]? = some p := ⟨_, List.getElem?_eq_getElem hk⟩
    have hz := h2.sz
    rw [keyAt_is hp]
    exact keyE2_any k HB gB aB vB pvB B p w (hlB.below h2.b (by omega)) (hrB.below h2.b (by omega)) hp (by omega)
  · rintro i k r w hi hk hc ⟨out, h1, h2⟩
    obtain ⟨p, hp⟩ : ∃ p, A[i]? = some p := ⟨_, List.getElem?_eq_getElem hi⟩
    refine (meetE_left HA HB L w0 w gA aA vA pvA A p i hp (by omega) hlA hrA out r h2 (InvE.len (w := w) (r := r) (L := L) (w0 := w0) h1 hA hB)).mono ?_
    rintro e w2 ⟨rfl, r', g1, g2⟩
    refine ⟨rfl, r', ⟨_, ?_, g1⟩, g2⟩
    rw [← h1, mrg_left hp (fun y hy => by
      have := hc (List.getElem?_eq_some_iff.1 hy).1
      rwa [keyAt_is hp, keyAt_is hy] at this), List.append_assoc]
  · rintro i k r w hi hk hc ⟨out, h1, h2⟩
    obtain ⟨p, hp⟩ : ∃ p, B[k]? = some p := ⟨_, List.getElem?_eq_getElem hk⟩
    refine (meetE_right HA HB L w0 w gB aB vB pvB B p k hp (by omega) hlB hrB out r h2 (InvE.len (w := w) (r := r) (L := L) (w0 := w0) h1 hA hB)).mono ?_
    rintro e w2 ⟨rfl, r', g1, g2⟩
    refine ⟨rfl, r', ⟨_, ?_, g1⟩, g2⟩
    rw [← h1, mrg_right hp (fun y hy => by
      have := hc (List.getElem?_eq_some_iff.1 hy).1
      rwa [keyAt_is hp, keyAt_is hy] at this), List.append_assoc]
  · rintro i k r w hi hk hc ⟨out, h1, h2⟩
    obtain ⟨p, hp⟩ : ∃ p, A[i]? = some p := ⟨_, List.getElem?_eq_getElem hi⟩
    obtain ⟨q, hq⟩ : ∃ q, B[k]? = some q := ⟨_, List.getElem?_eq_getElem hk⟩
    refine (meetE_both HA HB L w0 w gA aA vA pvA A p i hp (by omega) hlA hrA gB aB vB pvB B q k hq (by omega) hlB hrB out r h2 (InvE.len (w := w) (r := r) (L := L) (w0 := w0) h1 hA hB)).mono ?_
    rintro e w2 ⟨rfl, r', g1, g2⟩
    refine ⟨rfl, r', ⟨_, ?_, g1⟩, g2⟩
    rw [← h1, mrg_both hp hq (by rwa [keyAt_is hp, keyAt_is hq] at hc), List.append_assoc]
def EditsP (l : List Ed) (w : World) (e : Ending) (w' : World) : Prop := ∃ v, e = .returned v ∧ RdE w' v l ∧ Below w.heap.size w w'
def editsL (mA mB : Bool) (A B : List Pn) : List Ed := if (mA && mB) = true then edits A B else []
theorem GI.start {L : Nat} {w : World} (hL : w.heap.size = L) : GI L (L + 1) mkE 50 18 w 0 [] none (w.alloc (.cells #[.slice none 0 0] 29)) :=
  ⟨hL, by omega, by rw [← hL]; exact (Below.refl _ _).alloc (Nat.le_refl _) _, by simp [hL], .slice none 0 0, by rw [← hL]; exact heap_alloc_new w _, World.ownsRow_nil _ _ _ _, rfl⟩
set_option maxRecDepth 100000 in
set_option maxHeartbeats 2000000 in
theorem Edits_any (gA aA vA : ByteArray) (hg : okT gA) (ha : okT aA) (hv : okT vA) (gB aB vB : ByteArray) (hg' : okT gB) (ha' : okT aB) (hv' : okT vB) (pvA pvB : Value) (A B : List Pn) (hA : ∀ p ∈ A, okP p) (hB : ∀ p ∈ B, okP p) (hAl : A.length ≤ 1000000) (hBl : B.length ≤ 1000000) (w : World) (hrA : RdN w pvA A) (hrB : RdN w pvB B) :
    Calls Try.prog 10 #[lockV gA aA vA pvA, lockV gB aB vB pvB] w (EditsP (editsL (mayLock gA aA vA A) (mayLock gB aB vB B) A B) w) := by
  obtain ⟨pa1, pc1, rfl⟩ := hrA.shape
  obtain ⟨pa2, pc2, rfl⟩ := hrB.shape
  have hma := fun w' hr => MayL_any gA aA vA hg ha hv (.slice pa1 A.length pc1) A hA hAl w' hr
  have hmb := fun w' hr => MayL_any gB aB vB hg' ha' hv' (.slice pa2 B.length pc2) B hB hBl w' hr
  generalize mayLock gA aA vA A = bA at hma ⊢
  generalize mayLock gB aB vB B = bB at hmb ⊢
  have hb0 : Below w.heap.size w ((w.alloc (.cells #[.string gA, .string aA, .string vA, .slice pa1 A.length pc1] 26)).alloc (.cells #[.string gB, .string aB, .string vB, .slice pa2 B.length pc2] 26)) := ((Below.refl w.heap.size w).alloc (Nat.le_refl _) _).alloc (by simp) _
  have hk1 : LkIn ((w.alloc (.cells #[.string gA, .string aA, .string vA, .slice pa1 A.length pc1] 26)).alloc (.cells #[.string gB, .string aB, .string vB, .slice pa2 B.length pc2] 26)) w.heap.size gA aA vA (.slice pa1 A.length pc1) := (LkIn.new w gA aA vA _).below ((Below.refl _ _).alloc (Nat.le_refl _) _) (Nat.le_refl _)
  have hk2 : LkIn ((w.alloc (.cells #[.string gA, .string aA, .string vA, .slice pa1 A.length pc1] 26)).alloc (.cells #[.string gB, .string aB, .string vB, .slice pa2 B.length pc2] 26)) (w.heap.size + 1) gB aB vB (.slice pa2 B.length pc2) := by
    have := LkIn.new (w.alloc (.cells #[.string gA, .string aA, .string vA, .slice pa1 A.length pc1] 26)) gB aB vB (.slice pa2 B.length pc2)
    simpa using this
  have HMA := Lib.hid hma
  have HMB := Lib.hid hmb
  have HRA := Lib.hid (hrA.below hb0 (Nat.le_refl _))
  have HRB := Lib.hid (hrB.below hb0 (Nat.le_refl _))
  have HB0 := Lib.hid hb0
  clear hma hmb hrA hrB hb0 hA hB hg ha hv hg' ha' hv'
  unfold lockV at HMA HMB ⊢
  go_enter Try.func10, Try.ntmps10
  go_upto_region 1 with fail
  generalize ((w.alloc (.cells #[.string gA, .string aA, .string vA, .slice pa1 A.length pc1] 26)).alloc (.cells #[.string gB, .string aB, .string vB, .slice pa2 B.length pc2] 26)) = w1 at hk1 hk2 HRA HRB HB0 ⊢
  have HK1 := Lib.hid hk1
  have HK2 := Lib.hid hk2
  obtain ⟨x0, x1, x2, x3⟩ := hk1
  obtain ⟨y0, y1, y2, y3⟩ := hk2
  go_wp2_with fail
  refine (HMA.out _ HRA.out).mono ?_
  rintro e w2 ⟨rfl, hb2⟩
  have HB2 := Lib.hid hb2
  clear x0 x1 x2 x3 y0 y1 y2 y3 hb2
  cases bA
  · go_wp2
    go_ret
    exact ⟨_, rfl, .inl ⟨rfl, rfl⟩, HB0.out.trans (HB2.out.mono HB0.out.size)⟩
  obtain ⟨y0, y1, y2, y3⟩ := HK2.out.below HB2.out (Nat.le_refl _)
  go_wp2_with fail
  refine (HMB.out _ (HRB.out.below HB2.out (Nat.le_refl _))).mono ?_
  rintro e w3 ⟨rfl, hb3⟩
  have HB3 := Lib.hid (HB2.out.trans (hb3.mono HB2.out.size))
  clear y0 y1 y2 y3 hb3 HB2
  cases bB
  · go_wp2
    go_ret
    exact ⟨_, rfl, .inl ⟨rfl, rfl⟩, HB0.out.trans (HB3.out.mono HB0.out.size)⟩
  have hba : Below w3.heap.size w3 (w3.alloc (.cells #[.slice none 0 0] 29)) := (Below.refl _ _).alloc (Nat.le_refl _) _
  have hlk1 := HK1.out.below HB3.out (Nat.le_refl _)
  have hlk2 := HK2.out.below HB3.out (Nat.le_refl _)
  have HBE := Lib.hid (besideEdits A B hAl hBl w.heap.size (w.heap.size + 1) w3.heap.size w3 _ gA aA vA gB aB vB _ _ hlk1 (HRA.out.below HB3.out (Nat.le_refl _)) hlk2 (HRB.out.below HB3.out (Nat.le_refl _)) (GI.start rfl))
  obtain ⟨x0, x1, x2, x3⟩ := hlk1.below hba (Nat.le_refl _)
  obtain ⟨y0, y1, y2, y3⟩ := hlk2.below hba (Nat.le_refl _)
  clear hlk1 hlk2
  go_wp2_with fail
  refine HBE.out.mono ?_
  rintro e w4 ⟨rfl, r, out, hm, hgi⟩
  obtain ⟨v, hv, hown, hrv⟩ := hgi.row
  have hout : out = edits A B := by
    rw [← hm, List.drop_length, List.drop_length, mrg, List.append_nil]
  have hc4 : w4.cell? ⟨w3.heap.size, 0, none⟩ = some v := by rw [cell_of_row w4 _ 0 _ _ (0, 0) hv]; rfl
  have HF := Lib.hid (show RdE w4 v (editsL true true A B) from by
    have : editsL true true A B = out := by rw [hout]; rfl
    rw [this]
    exact RdE.of_own hown)
  have HB4 := Lib.hid (HB0.out.trans ((HB3.out.trans (hgi.b.mono HB3.out.size)).mono HB0.out.size))
  clear x0 x1 x2 x3 y0 y1 y2 y3 hm hgi hv hown hrv hout hba
  go_wp2
  go_ret
  exact ⟨_, rfl, HF.out, HB4.out⟩
end Go.Proofs.Ytoibanffaebllaa
