/-
  Layer 25: the contract of diff.Apply. Own work.
-/
import Derived.Test.YtoibanffaebllaaMeetA25c
import Derived.Test.YtoibanffaebllaaBesideA25
import Derived.Test.YtoibanffaebllaaEdits25
import Derived.Test.YtoibanffaebllaaMay25b
namespace Go.Proofs.Ytoibanffaebllaa
set_option linter.unusedVariables false
set_option linter.unusedSimpArgs false
open Go.RowKit

def keyEd (l : List Ed) (i : Nat) : K4 := ((l[i]?).map Ed.key).getD ⟨⟨#[]⟩, ⟨#[]⟩, ⟨#[]⟩, ⟨#[]⟩⟩
theorem keyEd_is {l : List Ed} {i : Nat} {p : Ed} (h : l[i]? = some p) : keyEd l i = p.key := by unfold keyEd; rw [h]; rfl
/-! the test, step by step -/
section
variable {α β γ : Type} {ka : α → K4} {kb : β → K4} {t : Option α → Option β → Bool} {f : Option α → Option β → Option γ} {l : List α} {m : List β} {i k : Nat} {x : α} {y : β}
theorem all_left (hx : l[i]? = some x) (h : ∀ y, m[k]? = some y → kcmp (ka x) (kb y) < 0) :
    allB ka kb t (l.drop i) (m.drop k) = (t (some x) none && allB ka kb t (l.drop (i + 1)) (m.drop k)) := by
  obtain ⟨hi, hxi⟩ := List.getElem?_eq_some_iff.1 hx
  rw [List.drop_eq_getElem_cons hi, hxi]
  cases hm : m.drop k with
  | nil => rw [allB]
  | cons y r =>
    have hy : m[k]? = some y := by
      have := congrArg (fun l => l[0]?) hm
      simpa using this
    rw [allB, if_pos (h y hy)]
theorem all_right (hy : m[k]? = some y) (h : ∀ x, l[i]? = some x → 0 < kcmp (ka x) (kb y)) :
    allB ka kb t (l.drop i) (m.drop k) = (t none (some y) && allB ka kb t (l.drop i) (m.drop (k + 1))) := by
  obtain ⟨hk, hyk⟩ := List.getElem?_eq_some_iff.1 hy
  rw [List.drop_eq_getElem_cons hk, hyk]
  cases hm : l.drop i with
  | nil => rw [allB]
  | cons x r =>
    have hx : l[i]? = some x := by
      have := congrArg (fun l => l[0]?) hm
      simpa using this
    have := h x hx
    rw [allB, if_neg (by omega), if_pos this]
theorem all_both (hx : l[i]? = some x) (hy : m[k]? = some y) (h : kcmp (ka x) (kb y) = 0) :
    allB ka kb t (l.drop i) (m.drop k) = (t (some x) (some y) && allB ka kb t (l.drop (i + 1)) (m.drop (k + 1))) := by
  obtain ⟨hi, hxi⟩ := List.getElem?_eq_some_iff.1 hx
  obtain ⟨hk, hyk⟩ := List.getElem?_eq_some_iff.1 hy
  rw [List.drop_eq_getElem_cons hi, hxi, List.drop_eq_getElem_cons hk, hyk, allB, if_neg (by omega), if_neg (by omega)]
/-- where an element comes from -/
theorem mrg_src : ∀ (l : List α) (m : List β) (g : γ), g ∈ mrg ka kb f l m → ∃ x y, (∀ a, x = some a → a ∈ l) ∧ (∀ b, y = some b → b ∈ m) ∧ f x y = some g
  | [], [], g, h => by simp [mrg] at h
  | x :: l, [], g, h => by
    rw [mrg, List.mem_append] at h
    rcases h with h | h
    · exact ⟨some x, none, by simp, by simp, by simpa using h⟩
    · obtain ⟨a, b, h1, h2, h3⟩ := mrg_src l [] g h
      exact ⟨a, b, fun z hz => List.mem_cons_of_mem _ (h1 z hz), h2, h3⟩
  | [], y :: m, g, h => by
    rw [mrg, List.mem_append] at h
    rcases h with h | h
    · exact ⟨none, some y, by simp, by simp, by simpa using h⟩
    · obtain ⟨a, b, h1, h2, h3⟩ := mrg_src [] m g h
      exact ⟨a, b, h1, fun z hz => List.mem_cons_of_mem _ (h2 z hz), h3⟩
  | x :: l, y :: m, g, h => by
    rw [mrg] at h
    split at h
    · rw [List.mem_append] at h
      rcases h with h | h
      · exact ⟨some x, none, by simp, by simp, by simpa using h⟩
      · obtain ⟨a, b, h1, h2, h3⟩ := mrg_src l (y :: m) g h
        exact ⟨a, b, fun z hz => List.mem_cons_of_mem _ (h1 z hz), h2, h3⟩
    · split at h
      · rw [List.mem_append] at h
        rcases h with h | h
        · exact ⟨none, some y, by simp, by simp, by simpa using h⟩
        · obtain ⟨a, b, h1, h2, h3⟩ := mrg_src (x :: l) m g h
          exact ⟨a, b, h1, fun z hz => List.mem_cons_of_mem _ (h2 z hz), h3⟩
      · rw [List.mem_append] at h
        rcases h with h | h
        · exact ⟨some x, some y, by simp, by simp, by simpa using h⟩
        · obtain ⟨a, b, h1, h2, h3⟩ := mrg_src l m g h
          exact ⟨a, b, fun z hz => List.mem_cons_of_mem _ (h1 z hz), fun z hz => List.mem_cons_of_mem _ (h2 z hz), h3⟩
termination_by l m => l.length + m.length
end
theorem apply_src {A : List Pn} {l : List Ed} {p : Pn} (h : p ∈ apply A l) : p ∈ A ∨ ∃ e ∈ l, p = e.new := by
  obtain ⟨x, y, h1, h2, h3⟩ := mrg_src A l p h
  cases y with
  | none =>
    simp only [apF] at h3
    exact .inl (h1 p h3)
  | some e =>
    simp only [apF] at h3
    split at h3
    · cases h3; exact .inr ⟨e, h2 e rfl, rfl⟩
    · cases h3
theorem apply_len (A : List Pn) (l : List Ed) : (apply A l).length ≤ A.length + l.length := mrg_len A l
def InvA (A : List Pn) (E : List Ed) (L : Nat) (g a u : ByteArray) (w0 : World) (i k : Nat) (r : Option Nat) (w : World) : Prop :=
  ∃ out f, out ++ mrg Pn.key Ed.key apF (A.drop i) (E.drop k) = apply A E ∧ (f && allB Pn.key Ed.key fitB (A.drop i) (E.drop k)) = fits A E ∧ GI L (L + 2) (mkL g a u) 48 6 w0 out.length (rowN out) r w ∧ FitAt L f w
theorem InvA.len {A : List Pn} {E : List Ed} {i k : Nat} {out : List Pn} (h : out ++ mrg Pn.key Ed.key apF (A.drop i) (E.drop k) = apply A E) (hA : A.length ≤ 1000000) (hE : E.length ≤ 1000000) : out.length ≤ 2000000 := by
  have h1 := apply_len A E
  have h2 := congrArg List.length h
  simp only [List.length_append] at h2
  omega
theorem besideApply (A : List Pn) (E : List Ed) (hA : A.length ≤ 1000000) (hE : E.length ≤ 1000000) (HA HE L : Nat) (w0 w : World) (gA aA vA : ByteArray) (pvA vE : Value) (hlA : LkIn w0 HA gA aA vA pvA) (hrA : RdN w0 pvA A) (hcE : w0.cell? ⟨HE, 0, none⟩ = some vE) (hrE : RdE w0 vE E) (g a u : ByteArray)
    (h0 : GI L (L + 2) (mkL g a u) 48 6 w0 0 [] none w) (hf0 : FitAt L true w) :
    Calls Try.prog 27 #[.int .i64 A.length, .int .i64 E.length, .func (.func 33) #[] #[.pointer (some ⟨HA, 0, none⟩)], .func (.func 34) #[] #[.pointer (some ⟨HE, 0, none⟩)], .func (.func 35) #[] #[.pointer (some ⟨L, 0, none⟩), .pointer (some ⟨HA, 0, none⟩), .pointer (some ⟨HE, 0, none⟩), .pointer (some ⟨L + 1, 0, none⟩)]] w (BesP (InvA A E L g a u w0) A.length E.length) := by
  have hHE : HE < w0.heap.size := World.block_lt_of_cell? w0 _ hcE
  have hcw : ∀ {w : World}, Below w0.heap.size w0 w → w.cell? ⟨HE, 0, none⟩ = some vE := fun hb => (hb.cell (p := ⟨HE, 0, none⟩) hHE).trans hcE
  refine besideA_any A.length E.length hA hE (keyAt A) (keyEd E) (.pointer (some ⟨HA, 0, none⟩)) (.pointer (some ⟨HE, 0, none⟩)) _ _ _ _ (L + 2) (InvA A E L g a u w0) ?_ ?_ ?_ ?_ ?_ ?_ none w h0.bs (fun x h => by cases h) ⟨[], true, rfl, rfl, h0, hf0⟩
  · rintro i k r w w' ⟨out, f, h1, h2, h3, h4⟩ hf
    exact ⟨out, f, h1, h2, h3.stab hf, h4.frm h3.bs hf⟩
  · rintro i k r w hi ⟨out, f, h1, h2, h3, h4⟩
    obtain ⟨p, hp⟩ : ∃ p, A[i]? = some p := ⟨_, List.getElem?_eq_getElem hi⟩
    have hz := h3.sz
    rw [keyAt_is hp]
    exact keyA1_any i HA gA aA vA pvA A p w (hlA.below h3.b (by omega)) (hrA.below h3.b (by omega)) hp (by omega)
  · rintro i k r w hk ⟨out, f, h1, h2, h3, h4⟩
    obtain ⟨p, hp⟩ : ∃ p, E[k]? = some p := ⟨_, List.getElem?_eq_getElem hk⟩
    have hz := h3.sz
    rw [keyEd_is hp]
    exact keyA2_any k HE vE E p w (hcw (by rw [hz]; exact h3.b)) (hrE.below h3.b (by omega)) hp (by omega)
  · rintro i k r w hi hk hc ⟨out, f, h1, h2, h3, h4⟩
    obtain ⟨p, hp⟩ : ∃ p, A[i]? = some p := ⟨_, List.getElem?_eq_getElem hi⟩
    have hlt : ∀ y, E[k]? = some y → kcmp (Pn.key p) (Ed.key y) < 0 := fun y hy => by
      have := hc (List.getElem?_eq_some_iff.1 hy).1
      rwa [keyAt_is hp, keyEd_is hy] at this
    refine (meetA_left HA _ L w0 w g a u out r f h3 h4 (InvA.len h1 hA hE) gA aA vA pvA A p i hp (by omega) hlA hrA).mono ?_
    rintro e w2 ⟨rfl, r', g1, g2, g3⟩
    refine ⟨rfl, r', ⟨_, _, ?_, ?_, g1, g2⟩, g3⟩
    · rw [← h1, mrg_left hp hlt, List.append_assoc]; rfl
    · rw [← h2, all_left hp hlt]; rfl
  · rintro i k r w hi hk hc ⟨out, f, h1, h2, h3, h4⟩
    obtain ⟨⟨ek, had, has, old, new⟩, hp⟩ : ∃ p, E[k]? = some p := ⟨_, List.getElem?_eq_getElem hk⟩
    have hlt : ∀ x, A[i]? = some x → 0 < kcmp (Pn.key x) (Ed.key ⟨ek, had, has, old, new⟩) := fun y hy => by
      have := hc (List.getElem?_eq_some_iff.1 hy).1
      rwa [keyEd_is hp, keyAt_is hy] at this
    refine (meetA_right _ HE L w0 w g a u out r f h3 h4 (InvA.len h1 hA hE) vE E ek had has old new k hp (by omega) hcE hrE).mono ?_
    rintro e w2 ⟨rfl, r', g1, g2, g3⟩
    refine ⟨rfl, r', ⟨_, _, ?_, ?_, g1, g2⟩, g3⟩
    · rw [← h1, mrg_right hp hlt, List.append_assoc]
    · rw [← h2, all_right hp hlt, Bool.and_assoc]
  · rintro i k r w hi hk hc ⟨out, f, h1, h2, h3, h4⟩
    obtain ⟨p, hpA⟩ : ∃ p, A[i]? = some p := ⟨_, List.getElem?_eq_getElem hi⟩
    obtain ⟨⟨ek, had, has, old, new⟩, hp⟩ : ∃ p, E[k]? = some p := ⟨_, List.getElem?_eq_getElem hk⟩
    have hz : kcmp (Pn.key p) (Ed.key ⟨ek, had, has, old, new⟩) = 0 := by rwa [keyAt_is hpA, keyEd_is hp] at hc
    refine (meetA_both HA HE L w0 w g a u out r f h3 h4 (InvA.len h1 hA hE) vE E ek had has old new k hp (by omega) hcE hrE gA aA vA pvA A p i hpA (by omega) hlA hrA).mono ?_
    rintro e w2 ⟨rfl, r', g1, g2, g3⟩
    refine ⟨rfl, r', ⟨_, _, ?_, ?_, g1, g2⟩, g3⟩
    · rw [← h1, mrg_both hpA hp hz, List.append_assoc]
    · rw [← h2, all_both hpA hp hz, Bool.and_assoc]
/-- a row of pins in another block than the one that is stored into -/
theorem RdN.far {w : World} {v : Value} {l : List Pn} {R : Nat} {c' : Array Value} (h : RdN w v l) (hR : ∀ k, v.ownBlock = some k → k ≠ R) : RdN (w.setRow R c') v l := by
  rcases h with h | ⟨a, cap, h1, h2, h3, h5⟩
  · exact .inl h
  · refine .inr ⟨a, cap, h1, h2, h3, fun i p hp c u hu => ?_⟩
    have hne : a.block ≠ R := hR a.block (by rw [h1]; rfl)
    exact (cell_setRow_other w R c' _ (by rw [add_block]; exact hne)).trans (h5 i p hp c u hu)
theorem apply_results (tmps : Array Value) (w : World) (R : Nat) (cs : Array Value) (hs : cs.size = 4) (e : Value) (h2 : tmps.getD 4 undef = .pointer (some ⟨R, 0, none⟩)) (h3 : tmps.getD 5 undef = e)
    (hR : w.heap[R]? = some (.cells cs 26 (0, 0))) :
    (results Try.f15 tmps).run Try.prog w = .ok (.tuple #[.agg cs, e]) w := by
  have h2' : tmps[4]?.getD undef = .pointer (some ⟨R, 0, none⟩) := by simpa using h2
  have h3' : tmps[5]?.getD undef = e := by simpa using h3
  have l1 := run_loadVar_row w R 26 26 cs (0, 0) _ hR Try.underlying26 rfl (by rw [hs]; kernel_rfl)
  simp [results, Try.results15, h2', h3', asAddr, l1]
/-- what Apply answers: whether it goes, the root, the pins -/
def ApplyP (ok : Bool) (g a u : ByteArray) (m : List Pn) (w : World) (e : Ending) (w' : World) : Prop :=
  (ok = true ∧ ∃ pv, e = .returned (.tuple #[lockV g a u pv, .int .i64 0]) ∧ RdN w' pv m ∧ Below w.heap.size w w') ∨
  (ok = false ∧ e = .returned (.tuple #[lockV ⟨#[]⟩ ⟨#[]⟩ ⟨#[]⟩ (.slice none 0 0), .int .i64 1]) ∧ Below w.heap.size w w')
theorem GI.startL {L : Nat} {w : World} (hL : w.heap.size = L) (g a u : ByteArray) :
    GI L (L + 2) (mkL g a u) 48 6 w 0 [] none ((w.alloc (.cells #[.string g, .string a, .string u, .slice none 0 0] 26)).alloc (.cells #[.bool true] 4)) :=
  ⟨hL, by omega, by rw [← hL]; exact ((Below.refl _ _).alloc (Nat.le_refl _) _).alloc (by simp) _, by simp [hL], .slice none 0 0, by rw [← hL]; exact (Below.heap_alloc _ _ _ (by simp)).trans (heap_alloc_new w _), World.ownsRow_nil _ _ _ _, rfl⟩
theorem FitAt.start {L : Nat} {w : World} (hL : w.heap.size = L) (o : Obj) (b : Bool) : FitAt L b ((w.alloc o).alloc (.cells #[.bool b] 4)) := by
  have := heap_alloc_new (w.alloc o) (.cells #[.bool b] 4)
  unfold FitAt
  rw [← hL]
  simpa using this
def applyOk (g a u : ByteArray) (A : List Pn) (E : List Ed) : Bool := mayLock g a u A && (mayEds E && (fits A E && mayLock g a u (apply A E)))
set_option maxRecDepth 100000 in
set_option maxHeartbeats 4000000 in
theorem Apply_any (g a u : ByteArray) (hg : okT g) (ha : okT a) (hu : okT u) (pv vE : Value) (A : List Pn) (E : List Ed) (hA : ∀ p ∈ A, okP p) (hE : ∀ e ∈ E, okP e.new) (hAl : A.length ≤ 400000) (hEl : E.length ≤ 400000) (w : World) (hrA : RdN w pv A) (hrE : RdE w vE E) :
    Calls Try.prog 15 #[lockV g a u pv, vE] w (ApplyP (applyOk g a u A E) g a u (apply A E) w) := by
  obtain ⟨pa1, pc1, rfl⟩ := hrA.shape
  obtain ⟨pa2, pc2, rfl⟩ := hrE.shape
  have hma := fun w' hr => MayL_any g a u hg ha hu (.slice pa1 A.length pc1) A hA (by omega) w' hr
  have hme := fun w' hr => MayE_any (.slice pa2 E.length pc2) E (by omega) w' hr
  have hmo := fun pv' w' hr => MayL_any g a u hg ha hu pv' (apply A E) (fun p hp => by rcases apply_src hp with h | ⟨e, h, rfl⟩; exact hA p h; exact hE e h) (by have := apply_len A E; omega) w' hr
  have hok : applyOk g a u A E = (mayLock g a u A && (mayEds E && (fits A E && mayLock g a u (apply A E)))) := rfl
  generalize applyOk g a u A E = OK at hok ⊢
  generalize mayLock g a u A = b1 at hma hok
  generalize mayEds E = b2 at hme hok
  generalize mayLock g a u (apply A E) = b4 at hmo hok
  have hb0 : Below w.heap.size w (((w.alloc (.cells #[.string g, .string a, .string u, .slice pa1 A.length pc1] 26)).alloc (.cells #[.slice pa2 E.length pc2] 29)).alloc (.cells #[.string ⟨#[]⟩, .string ⟨#[]⟩, .string ⟨#[]⟩, .slice none 0 0] 26)) := (((Below.refl w.heap.size w).alloc (Nat.le_refl _) _).alloc (by simp) _).alloc (by simp; omega) _
  have hk1 : LkIn (((w.alloc (.cells #[.string g, .string a, .string u, .slice pa1 A.length pc1] 26)).alloc (.cells #[.slice pa2 E.length pc2] 29)).alloc (.cells #[.string ⟨#[]⟩, .string ⟨#[]⟩, .string ⟨#[]⟩, .slice none 0 0] 26)) w.heap.size g a u (.slice pa1 A.length pc1) := ((LkIn.new w g a u _).below ((Below.refl _ _).alloc (Nat.le_refl _) _) (Nat.le_refl _)).below ((Below.refl _ _).alloc (Nat.le_refl _) _) (Nat.le_refl _)
  have hk2 : (((w.alloc (.cells #[.string g, .string a, .string u, .slice pa1 A.length pc1] 26)).alloc (.cells #[.slice pa2 E.length pc2] 29)).alloc (.cells #[.string ⟨#[]⟩, .string ⟨#[]⟩, .string ⟨#[]⟩, .slice none 0 0] 26)).cell? ⟨w.heap.size + 1, 0, none⟩ = some (.slice pa2 E.length pc2) := by simp [go_sem]
  have hk3 : (((w.alloc (.cells #[.string g, .string a, .string u, .slice pa1 A.length pc1] 26)).alloc (.cells #[.slice pa2 E.length pc2] 29)).alloc (.cells #[.string ⟨#[]⟩, .string ⟨#[]⟩, .string ⟨#[]⟩, .slice none 0 0] 26)).heap[w.heap.size + 1 + 1]? = some (.cells #[.string ⟨#[]⟩, .string ⟨#[]⟩, .string ⟨#[]⟩, .slice none 0 0] 26 (0, 0)) := by
    have := heap_alloc_new ((w.alloc (.cells #[.string g, .string a, .string u, .slice pa1 A.length pc1] 26)).alloc (.cells #[.slice pa2 E.length pc2] 29)) (.cells #[.string ⟨#[]⟩, .string ⟨#[]⟩, .string ⟨#[]⟩, .slice none 0 0] 26)
    simpa using this
  have HMA := Lib.hid hma
  have HME := Lib.hid hme
  have HMO := Lib.hid hmo
  have HOK := Lib.hid hok
  have HRA := Lib.hid (hrA.below hb0 (Nat.le_refl _))
  have HRE := Lib.hid (hrE.below hb0 (Nat.le_refl _))
  have HB0 := Lib.hid hb0
  have HAL := Lib.hid hAl
  have HEL := Lib.hid hEl
  clear hma hme hmo hok hrA hrE hb0 hA hE hg ha hu hAl hEl
  unfold lockV at HMA HMO ⊢
  go_enter Try.func15, Try.ntmps15
  go_upto_region 1 with fail
  generalize (((w.alloc (.cells #[.string g, .string a, .string u, .slice pa1 A.length pc1] 26)).alloc (.cells #[.slice pa2 E.length pc2] 29)).alloc (.cells #[.string ⟨#[]⟩, .string ⟨#[]⟩, .string ⟨#[]⟩, .slice none 0 0] 26)) = w1 at hk1 hk2 hk3 HRA HRE HB0 ⊢
  obtain ⟨H1, hH1⟩ : ∃ H1, H1 = w.heap.size + 1 := ⟨_, rfl⟩
  obtain ⟨R, hR⟩ : ∃ R, R = w.heap.size + 1 + 1 := ⟨_, rfl⟩
  rw [← hR] at hk3
  rw [← hH1] at hk2
  simp only [← hR]
  simp only [← hH1]
  have HR := Lib.hid (show w.heap.size ≤ R from by omega)
  clear hR hH1
  have HK1 := Lib.hid hk1
  have HK2 := Lib.hid hk2
  have HK3 := Lib.hid hk3
  have HRW := Lib.hid (show R < w1.heap.size from (Array.getElem?_eq_some_iff.1 hk3).1)
  clear hk3
  obtain ⟨x0, x1, x2, x3⟩ := hk1
  have bad : ∀ (w' : World), Below w1.heap.size w1 w' → OK = false → True := fun _ _ _ => trivial
  clear bad
  go_wp2_with fail
  refine (HMA.out _ HRA.out).mono ?_
  rintro e w2 ⟨rfl, hb2⟩
  have HB2 := Lib.hid hb2
  clear x0 x1 x2 x3 hk2
  have hR2 : w2.heap[R]? = some (.cells #[.string ⟨#[]⟩, .string ⟨#[]⟩, .string ⟨#[]⟩, .slice none 0 0] 26 (0, 0)) := (hb2.block R HRW.out).trans HK3.out
  have HR2 := Lib.hid hR2
  clear hR2
  cases b1
  · clear hb2
    go_wp2_with (refine wpList_store_row rfl 26 _ _ rfl R #[.string ⟨#[]⟩, .string ⟨#[]⟩, .string ⟨#[]⟩, .slice none 0 0] rfl rfl 26 _ HR2.out (by kernel_rfl) rfl (by simp [Value.oneCell']) ?_)
    refine bodyPost_ret (apply_results _ _ R #[.string ⟨#[]⟩, .string ⟨#[]⟩, .string ⟨#[]⟩, .slice none 0 0] rfl _ rfl rfl (setRow_heap w2 R _ _ _ _ HR2.out)) rfl ?_
    exact .inr ⟨by rw [HOK.out]; rfl, rfl, below_setRow (HB0.out.trans (HB2.out.mono HB0.out.size)) HR.out⟩
  have hk22 : w2.cell? ⟨H1, 0, none⟩ = some (.slice pa2 E.length pc2) := (hb2.cell (World.block_lt_of_cell? w1 _ HK2.out)).trans HK2.out
  clear hb2
  go_wp2_with fail
  refine (HME.out _ (HRE.out.below HB2.out (Nat.le_refl _))).mono ?_
  rintro e w3 ⟨rfl, hb3⟩
  have HB3 := Lib.hid (HB2.out.trans (hb3.mono HB2.out.size))
  have hR3 : w3.heap[R]? = some (.cells #[.string ⟨#[]⟩, .string ⟨#[]⟩, .string ⟨#[]⟩, .slice none 0 0] 26 (0, 0)) := (HB3.out.block R HRW.out).trans HK3.out
  have HR3 := Lib.hid hR3
  clear hR3 hb3 hk22 HB2 HR2
  cases b2
  · go_wp2_with (refine wpList_store_row rfl 26 _ _ rfl R #[.string ⟨#[]⟩, .string ⟨#[]⟩, .string ⟨#[]⟩, .slice none 0 0] rfl rfl 26 _ HR3.out (by kernel_rfl) rfl (by simp [Value.oneCell']) ?_)
    refine bodyPost_ret (apply_results _ _ R #[.string ⟨#[]⟩, .string ⟨#[]⟩, .string ⟨#[]⟩, .slice none 0 0] rfl _ rfl rfl (setRow_heap w3 R _ _ _ _ HR3.out)) rfl ?_
    exact .inr ⟨by rw [HOK.out]; rfl, rfl, below_setRow (HB0.out.trans (HB3.out.mono HB0.out.size)) HR.out⟩
  have hlk := HK1.out.below HB3.out (Nat.le_refl _)
  have hce : w3.cell? ⟨H1, 0, none⟩ = some (.slice pa2 E.length pc2) := (HB3.out.cell (World.block_lt_of_cell? w1 _ HK2.out)).trans HK2.out
  have HBE := Lib.hid (besideApply A E (by have := HAL.out; omega) (by have := HEL.out; omega) w.heap.size H1 w3.heap.size w3 _ g a u _ _ hlk (HRA.out.below HB3.out (Nat.le_refl _)) hce (HRE.out.below HB3.out (Nat.le_refl _)) g a u (GI.startL rfl g a u) (FitAt.start rfl _ true))
  have hb34 : Below w3.heap.size w3 (w3.alloc (.cells #[.string g, .string a, .string u, .slice none 0 0] 26)) := (Below.refl _ _).alloc (Nat.le_refl _) _
  have hb35 : Below w3.heap.size w3 ((w3.alloc (.cells #[.string g, .string a, .string u, .slice none 0 0] 26)).alloc (.cells #[.bool true] 4)) := hb34.alloc hb34.size _
  have hce5 := (hb35.cell (p := ⟨H1, 0, none⟩) (World.block_lt_of_cell? w3 _ hce)).trans hce
  have hlk5 := hlk.below hb35 (Nat.le_refl _)
  obtain ⟨z0, z1, z2, z3⟩ := hlk5
  obtain ⟨x0, x1, x2, x3⟩ := hlk
  clear hb34 hb35 hce
  go_wp2_with fail
  refine HBE.out.mono ?_
  rintro e w6 ⟨rfl, r, out, f, hm, hfits, hgi, hft⟩
  have hout : out = apply A E := by rw [← hm, List.drop_length, List.drop_length, mrg, List.append_nil]
  have hff : f = fits A E := by rw [← hfits, List.drop_length, List.drop_length, allB, Bool.and_true]
  subst hout
  obtain ⟨v, hv, hown, hrv⟩ := hgi.row
  have HRD := Lib.hid (show RdN w6 v (apply A E) from RdN.of_own hown)
  have hlkL : LkIn w6 w3.heap.size g a u v :=
    ⟨by rw [cell_of_row w6 _ 0 _ _ (0, 0) hv]; rfl, by rw [cell_of_row w6 _ 1 _ _ (0, 0) hv]; rfl, by rw [cell_of_row w6 _ 2 _ _ (0, 0) hv]; rfl, by rw [cell_of_row w6 _ 3 _ _ (0, 0) hv]; rfl⟩
  have hcf : w6.cell? ⟨w3.heap.size + 1, 0, none⟩ = some (.bool f) := by rw [cell_of_row w6 _ 0 _ _ (0, 0) hft]; rfl
  have HR6 := Lib.hid ((hgi.b.block R (by have := HRW.out; have := HB3.out.size; omega)).trans HR3.out)
  have HB6 := Lib.hid (HB0.out.trans ((HB3.out.trans (hgi.b.mono HB3.out.size)).mono HB0.out.size))
  have HFF := Lib.hid hff
  have HLKL := Lib.hid hlkL
  have HRL := Lib.hid (show ∀ k, v.ownBlock = some k → k ≠ R from fun k hk => by have := (hown.lt k hk).1; have := HRW.out; have := HB3.out.size; omega)
  clear hm hfits hgi hft hff hv hown hrv x0 x1 x2 x3 z0 z1 z2 z3 hce5
  cases f
  · clear hlkL
    go_wp2_with (refine wpList_store_row rfl 26 _ _ rfl R #[.string ⟨#[]⟩, .string ⟨#[]⟩, .string ⟨#[]⟩, .slice none 0 0] rfl rfl 26 _ HR6.out (by kernel_rfl) rfl (by simp [Value.oneCell']) ?_)
    refine bodyPost_ret (apply_results _ _ R #[.string ⟨#[]⟩, .string ⟨#[]⟩, .string ⟨#[]⟩, .slice none 0 0] rfl _ rfl rfl (setRow_heap w6 R _ _ _ _ HR6.out)) rfl ?_
    exact .inr ⟨by rw [HOK.out, ← HFF.out]; rfl, rfl, below_setRow HB6.out HR.out⟩
  obtain ⟨y0, y1, y2, y3⟩ := hlkL
  go_wp2_with fail
  refine (HMO.out v _ HRD.out).mono ?_
  rintro e w7 ⟨rfl, hb7⟩
  have HB7 := Lib.hid (HB6.out.trans (hb7.mono HB6.out.size))
  have HR7 := Lib.hid ((hb7.block R (Array.getElem?_eq_some_iff.1 HR6.out).1).trans HR6.out)
  have HRD7 := Lib.hid (HRD.out.below hb7 (Nat.le_refl _))
  have hlk7 := HLKL.out.below hb7 (Nat.le_refl _)
  clear y0 y1 y2 y3 hb7 hcf
  cases b4
  · clear hlk7
    go_wp2_with (refine wpList_store_row rfl 26 _ _ rfl R #[.string ⟨#[]⟩, .string ⟨#[]⟩, .string ⟨#[]⟩, .slice none 0 0] rfl rfl 26 _ HR7.out (by kernel_rfl) rfl (by simp [Value.oneCell']) ?_)
    refine bodyPost_ret (apply_results _ _ R #[.string ⟨#[]⟩, .string ⟨#[]⟩, .string ⟨#[]⟩, .slice none 0 0] rfl _ rfl rfl (setRow_heap w7 R _ _ _ _ HR7.out)) rfl ?_
    exact .inr ⟨by rw [HOK.out, ← HFF.out]; rfl, rfl, below_setRow HB7.out HR.out⟩
  · obtain ⟨y0, y1, y2, y3⟩ := hlk7
    have hvsh : ∃ va vc, v = .slice va (apply A E).length vc := HRD7.out.shape
    obtain ⟨va, vc, rfl⟩ := hvsh
    go_wp2_with (refine wpList_store_row rfl 26 _ _ rfl R #[.string g, .string a, .string u, .slice va (apply A E).length vc] rfl rfl 26 _ HR7.out (by kernel_rfl) rfl (by simp [Value.oneCell']) ?_)
    refine bodyPost_ret (apply_results _ _ R #[.string g, .string a, .string u, .slice va (apply A E).length vc] rfl _ rfl rfl (setRow_heap w7 R _ _ _ _ HR7.out)) rfl ?_
    refine .inl ⟨by rw [HOK.out, ← HFF.out]; rfl, _, rfl, ?_, below_setRow HB7.out HR.out⟩
    exact RdN.far HRD7.out HRL.out
end Go.Proofs.Ytoibanffaebllaa
