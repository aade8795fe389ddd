/-
  Layer 3: the grower's method text. Own work.
-/
import Derived.Test.YtpbkidmdfibaoaaGreatDoorGroB3
import Derived.Test.YtpbkidmdfibaoaaGreatDoorTl3
namespace Go.Proofs.YtpbkidmdfibaoaaGreatDoor
set_option linter.unusedVariables false
set_option linter.unusedSimpArgs false
open Go.RowKit

variable {Od : Nat → Prop}

theorem NdV.text {w : World} {F : Nat → Prop} {x : Tr} {va vk : Value} (h : NdV w F x va vk) (n t : List UInt8) : NdV w F (.mk n x.ats x.ks t) va vk := by
  cases h with
  | leaf ha hq => exact .leaf ha hq
  | kids ka kk ha hq hf hc hm hcell hk => exact .kids ka kk ha hq hf hc hm hcell hk
/-- texts of the open elements are no longer than this -/
def TB (M : Nat) (g : Gs) : Prop := ∀ u ∈ g.st, ∀ k ∈ u.ks, k.t.length ≤ M
def Kd.put (k : Kd) (s : List UInt8) : Kd := ⟨.mk k.x.n k.x.ats k.x.ks (k.x.t ++ s), k.va, k.vk⟩
def Kd.tx (s : List UInt8) : Kd := ⟨.mk [] [] [] s, .slice none 0 0, .slice none 0 0⟩
def Kd.no : Kd := Kd.tx []
theorem rowN_put (l : List Kd) (k : Kd) (s : List UInt8) : (rowN (l ++ [k])).set (l.length * 4 + 3) (.string (str (k.x.t ++ s))) = rowN (l ++ [k.put s]) := by
  rw [rowN_snoc, rowN_snoc, List.set_append_right _ _ (by rw [rowN_len]; omega), rowN_len, show l.length * 4 + 3 - l.length * 4 = 3 by omega]
  rfl
theorem rowN_tx (l : List Kd) (s : List UInt8) : ((((rowN l ++ kdL Kd.no).set (l.length * 4) (.string ⟨#[]⟩)).set (l.length * 4 + 1) (.slice none 0 0)).set (l.length * 4 + 2) (.slice none 0 0)).set (l.length * 4 + 3) (.string (str s)) = rowN l ++ kdL (Kd.tx s) := by
  have hl := rowN_len l
  rw [List.set_append_right _ _ (by omega), List.set_append_right _ _ (by omega), List.set_append_right _ _ (by omega), List.set_append_right _ _ (by omega), hl, show l.length * 4 - l.length * 4 = 0 by omega, show l.length * 4 + 1 - l.length * 4 = 1 by omega, show l.length * 4 + 2 - l.length * 4 = 2 by omega, show l.length * 4 + 3 - l.length * 4 = 3 by omega]
  rfl
theorem Tr.put_size (k : Kd) (s : List UInt8) : (k.put s).x.size = k.x.size := by
  rw [Tr.size_ks, Tr.size_ks]; rfl
/-- more text at the innermost element's last kid -/
theorem GR.put {w0 w : World} {G : Nat} {g : Gs} {N : Nat} {n : List UInt8} {ats : List At2} {va : Value} {l : List Kd} {k : Kd} {K c : Nat} {fs : List Fr} {vo vr : Value} {F : Nat → Prop}
    (h : GR w0 Od G g (⟨N, n, ats, va, .slice (some ⟨K, 0, none⟩) (l.length + 1) c, l ++ [k]⟩ :: fs) vo vr F w) (s : List UInt8) :
    GR w0 Od G ⟨.mk n ats ((l ++ [k.put s]).map (·.x)) [] :: fs.map Fr.tr, g.root, g.c⟩ (⟨N, n, ats, va, .slice (some ⟨K, 0, none⟩) (l.length + 1) c, l ++ [k.put s]⟩ :: fs) vo vr F (w.setCell ⟨K, l.length * 4 + 3, none⟩ (.string (str (k.x.t ++ s)))) := by
  obtain ⟨hs1, hs2⟩ := h.sep
  have hf := h.ok _ List.mem_cons_self
  have hrow := hf.row
  have hlen : (l ++ [k]).length = l.length + 1 := by simp
  have hlen2 : (l ++ [k.put s]).length = l.length + 1 := by simp
  dsimp only at hrow
  rw [hlen] at hrow
  obtain ⟨ho, _⟩ := World.ownsRow.stored hrow (l.length * 4 + 3) (.string (str (k.x.t ++ s)))
  rw [rowN_put] at ho
  have hms := Mvd.of_set w K (l.length * 4 + 3) (.string (str (k.x.t ++ s)))
  have hKN : K ≠ N := fun he => hs1 (by rw [he]; simp [Value.ownBlock])
  have hGK : G ≠ K := fun he => hs2 (by rw [he]; simp [Fr.mut, Value.ownBlock])
  refine h.turn (c' := g.c) h.cl ?_ (hms.mono fun x hx => ?_) ?_ ?_ ?_ ?_ ?_
  · have h1 := h.tot
    rw [← h.st] at h1
    simp only [List.map_cons, Tr.sizes, Fr.tr, Tr.size, List.map_append, Tr.sizes_app, List.map_nil, Tr.put_size] at h1 ⊢
    exact h1
  · rw [List.mem_singleton.1 hx]; simp [Fr.mut, Value.ownBlock]
  · rw [heap_setCell_other w _ G _ hGK]; exact h.obj
  · rw [heap_setCell_other w _ N _ (fun he => hKN he.symm)]; exact hf.node
  · rw [hlen2]; exact ho
  · intro q hq
    cases hq
    exact ⟨hKN, .inl rfl⟩
  · intro x hx
    rcases List.mem_append.1 hx with hx | hx
    · exact hf.kid x (List.mem_append_left _ hx)
    · rw [List.mem_singleton.1 hx]
      exact (hf.kid k (List.mem_append_right _ (List.mem_singleton.2 rfl))).text _ _
theorem textG_top {g : Gs} {s : List UInt8} (h : g.st = []) : textG g s = if s.all bl then .ok g else .bad 16 := by unfold textG; rw [h]
theorem textG_nil {g : Gs} {u : Tr} {st : List Tr} (h : g.st = u :: st) : textG g [] = .ok g := by unfold textG; rw [h]; rfl
theorem textG_put {g : Gs} {s : List UInt8} {u k : Tr} {ks : List Tr} {st : List Tr} (h : g.st = u :: st) (hs : s ≠ []) (hk : u.ks = ks ++ [k]) (hn : k.n = []) : textG g s = .ok ⟨.mk u.n u.ats (ks ++ [.mk k.n k.ats k.ks (k.t ++ s)]) u.t :: st, g.root, g.c⟩ := by
  unfold textG; rw [h]
  simp [hs, hk, hn, Tr.put]
theorem textG_new {g : Gs} {s : List UInt8} {u : Tr} {st : List Tr} (h : g.st = u :: st) (hs : s ≠ []) (hk : ∀ k, u.ks.getLast? = some k → k.n ≠ []) : textG g s = if 4096 ≤ g.c then .bad 2 else .ok ⟨u.add (.mk [] [] [] s) :: st, g.root, g.c + 1⟩ := by
  unfold textG; rw [h]
  simp only [hs, if_false]
  cases hl : u.ks.getLast? with
  | none => rfl
  | some k => simp only [hk k hl, if_false]
theorem last_cells {w : World} {B e n q1 g1 : Nat} {l : List Kd} {k : Kd} (ho : w.ownsRow B e 4 (.slice (some ⟨g1, 0, none⟩) (n + 1) q1) (n + 1) (rowN l ++ kdL k)) (hl : n = l.length) (c : Nat) (u : Value) (hu : (kdL k)[c]? = some u) : w.cell? ⟨g1, n * 4 + c, none⟩ = some u := by
  have h1 := ho.cells (g := g1) rfl (n * 4 + c) u (by rw [List.getElem?_append_right (by rw [rowN_len, hl]; omega), rowN_len, hl, show l.length * 4 + c - l.length * 4 = c by omega]; exact hu)
  rw [show (⟨g1, 0, none⟩ : Addr).add (n * 4 + c) = ⟨g1, n * 4 + c, none⟩ by unfold Addr.add; split <;> rename_i h0 <;> simp [h0]] at h1
  exact h1
theorem gN {w0 w : World} {G : Nat} {g : Gs} {f : Fr} {fs : List Fr} {vo vr : Value} {F : Nat → Prop} (h : GR w0 Od G g (f :: fs) vo vr F w) {g1 : Nat} (hor : f.vk.ownBlock = some g1 ∨ w.heap.size ≤ g1) : ¬ g1 = f.N := by
  rintro rfl
  rcases hor with h1 | h1
  · exact h.sep.1 (by rw [h1]; simp)
  · have := (Array.getElem?_eq_some_iff.1 (h.ok f List.mem_cons_self).node).1
    omega
/-- the new element's cells are stored into -/
theorem tx_stored {w2 w7 : World} {B n q1 g1 : Nat} {l : List Kd} {v : Value} (ho : w7.ownsRow B 26 4 (.slice (some ⟨g1, 0, none⟩) (n + 1) q1) (n + 1) (rowN l ++ kdL Kd.no)) (hl : n = l.length) (hm : Mvd v.ownBlock.toList w2 w7) (hor : v.ownBlock = some g1 ∨ w2.heap.size ≤ g1) (s : List UInt8) {w8 : World}
    (h8 : w8 = (((w7.setCell ⟨g1, n * 4, none⟩ (.string ⟨#[]⟩)).setCell ⟨g1, n * 4 + 1, none⟩ (.slice none 0 0)).setCell ⟨g1, n * 4 + 2, none⟩ (.slice none 0 0)).setCell ⟨g1, n * 4 + 3, none⟩ (.string (str s))) :
    w8.ownsRow B 26 4 (.slice (some ⟨g1, 0, none⟩) (n + 1) q1) (n + 1) (rowN l ++ kdL (Kd.tx s)) ∧ Mvd v.ownBlock.toList w2 w8 := by
  have h1 := World.ownsRow.stored ho (n * 4) (.string ⟨#[]⟩)
  have h2 := World.ownsRow.stored h1.1 (n * 4 + 1) (.slice none 0 0)
  have h3 := World.ownsRow.stored h2.1 (n * 4 + 2) (.slice none 0 0)
  have h4 := World.ownsRow.stored h3.1 (n * 4 + 3) (.string (str s))
  have hr := rowN_tx l s
  rw [← hl] at hr
  rw [hr] at h4
  subst h8
  refine ⟨h4.1, hm.trans' (Y := [g1]) (((Mvd.of_set _ _ _ _).trans (Mvd.of_set _ _ _ _)).trans ((Mvd.of_set _ _ _ _).trans (Mvd.of_set _ _ _ _))) fun k hk hlt => ?_⟩
  rw [List.mem_singleton] at hk
  subst hk
  rcases hor with h | h
  · rw [h]; simp
  · omega
theorem setCell_comm (w : World) (a b : Addr) (u v : Value) (h : ¬ a.block = b.block) : (w.setCell a u).setCell b v = (w.setCell b v).setCell a u := by
  unfold World.setCell
  congr 1
  apply Array.ext
  · simp
  · intro i h1 h2
    simp only [Array.getElem_modify]
    by_cases ha : a.block = i
    · by_cases hb : b.block = i
      · exact absurd (ha.trans hb.symm) h
      · simp [ha, hb]
    · by_cases hb : b.block = i
      · simp [ha, hb]
      · simp [ha, hb]
theorem tx_facts {w0 w w7 : World} {G N : Nat} {g : Gs} {n : List UInt8} {ats : List At2} {va vk : Value} {kd : List Kd} {fs : List Fr} {vo vr : Value} {F : Nat → Prop} (h : GR w0 Od G g (⟨N, n, ats, va, vk, kd⟩ :: fs) vo vr F w) {g1 q1 L B : Nat} (hL : L = kd.length)
    (hm : Mvd vk.ownBlock.toList w w7) (ho : w7.ownsRow B 26 4 (.slice (some ⟨g1, 0, none⟩) (L + 1) q1) (L + 1) (rowN kd ++ kdL Kd.no)) (hor : vk.ownBlock = some g1 ∨ w.heap.size ≤ g1) :
    w7.frozen? ⟨N, 2, none⟩ = false ∧ w7.cell? ⟨N, 2, none⟩ = some vk ∧ w7.cell? ⟨g1, L * 4, none⟩ = some (.string ⟨#[]⟩) ∧ w7.cell? ⟨g1, L * 4 + 1, none⟩ = some (.slice none 0 0) ∧ w7.cell? ⟨g1, L * 4 + 2, none⟩ = some (.slice none 0 0) ∧ w7.cell? ⟨g1, L * 4 + 3, none⟩ = some (.string ⟨#[]⟩) ∧
    w7.frozen? ⟨g1, L * 4, none⟩ = false ∧ w7.frozen? ⟨g1, L * 4 + 1, none⟩ = false ∧ w7.frozen? ⟨g1, L * 4 + 2, none⟩ = false ∧ w7.frozen? ⟨g1, L * 4 + 3, none⟩ = false ∧ ¬ g1 = N ∧ ¬ N = g1 := by
  have hn7 := h.node7 hm
  have hgN : ¬ g1 = N := gN h hor
  exact ⟨frozen_of_row w7 N 2 _ _ hn7, by rw [cell_of_row w7 N 2 _ _ (0, 0) hn7]; rfl, last_cells ho hL 0 _ rfl, last_cells ho hL 1 _ rfl, last_cells ho hL 2 _ rfl, last_cells ho hL 3 _ rfl, ho.frozenAt _, ho.frozenAt _, ho.frozenAt _, ho.frozenAt _, hgN, fun e => hgN e.symm⟩
theorem tx_done {w0 w w7 : World} {G N : Nat} {g : Gs} {n : List UInt8} {ats : List At2} {va vk : Value} {kd : List Kd} {fs : List Fr} {vo vr : Value} {F : Nat → Prop} (h : GR w0 Od G g (⟨N, n, ats, va, vk, kd⟩ :: fs) vo vr F w) {g1 q1 L : Nat} (hL : L = kd.length)
    (hm : Mvd vk.ownBlock.toList w w7) (ho : w7.ownsRow w0.heap.size 26 4 (.slice (some ⟨g1, 0, none⟩) (L + 1) q1) (L + 1) (rowN kd ++ kdL Kd.no)) (hor : vk.ownBlock = some g1 ∨ w.heap.size ≤ g1) (s : List UInt8)
    (htot : Tr.size (Fr.tr ⟨N, n, ats, va, vk, kd⟩) + (Kd.tx s).x.size + Tr.sizes (fs.map Fr.tr) ≤ g.c) :
    (∃ fs' vo vr F, GR w0 Od G ⟨(Tr.mk n ats (kd.map (·.x)) []).add (.mk [] [] [] s) :: fs.map Fr.tr, g.root, g.c⟩ fs' vo vr F
      (((((w7.setCell ⟨g1, L * 4, none⟩ (.string ⟨#[]⟩)).setCell ⟨g1, L * 4 + 1, none⟩ (.slice none 0 0)).setCell ⟨g1, L * 4 + 2, none⟩ (.slice none 0 0)).setCell ⟨g1, L * 4 + 3, none⟩ (.string (str s))).setCell ⟨N, 2, none⟩ (.slice (some ⟨g1, 0, none⟩) (L + 1) q1))) ∧
    (∃ fs' vo vr F, GR w0 Od G ⟨(Tr.mk n ats (kd.map (·.x)) []).add (.mk [] [] [] s) :: fs.map Fr.tr, g.root, g.c⟩ fs' vo vr F
      (((((w7.setCell ⟨N, 2, none⟩ (.slice (some ⟨g1, 0, none⟩) (L + 1) q1)).setCell ⟨g1, L * 4, none⟩ (.string ⟨#[]⟩)).setCell ⟨g1, L * 4 + 1, none⟩ (.slice none 0 0)).setCell ⟨g1, L * 4 + 2, none⟩ (.slice none 0 0)).setCell ⟨g1, L * 4 + 3, none⟩ (.string (str s)))) := by
  have hgN : ¬ N = g1 := fun e => gN h hor e.symm
  have h1 : ∃ fs' vo vr F, GR w0 Od G ⟨(Tr.mk n ats (kd.map (·.x)) []).add (.mk [] [] [] s) :: fs.map Fr.tr, g.root, g.c⟩ fs' vo vr F
      (((((w7.setCell ⟨g1, L * 4, none⟩ (.string ⟨#[]⟩)).setCell ⟨g1, L * 4 + 1, none⟩ (.slice none 0 0)).setCell ⟨g1, L * 4 + 2, none⟩ (.slice none 0 0)).setCell ⟨g1, L * 4 + 3, none⟩ (.string (str s))).setCell ⟨N, 2, none⟩ (.slice (some ⟨g1, 0, none⟩) (L + 1) q1)) := by
    obtain ⟨s1, s2⟩ := tx_stored ho hL hm hor s rfl
    subst hL
    exact ⟨_, _, _, _, h.more (k := Kd.tx s) (.leaf (.inl ⟨rfl, rfl⟩) (fun hn => absurd rfl hn)) htot s2 s1 hor⟩
  refine ⟨h1, ?_⟩
  rw [setCell_comm w7 ⟨N, 2, none⟩ _ _ _ hgN, setCell_comm _ ⟨N, 2, none⟩ _ _ _ hgN, setCell_comm _ ⟨N, 2, none⟩ _ _ _ hgN, setCell_comm _ ⟨N, 2, none⟩ _ _ _ hgN]
  exact h1
set_option maxRecDepth 100000 in
set_option maxHeartbeats 1000000 in
theorem gtext_at {w0 w : World} {G : Nat} {g : Gs} {fs : List Fr} {vo vr : Value} {F : Nat → Prop} (h : GR w0 Od G g fs vo vr F w) (s : List UInt8) (M : Nat) (hM : TB M g) (hs : M + s.length ≤ 5000000) (hT : Lib.Utf8Tabs 1 2 w) :
    Calls Tryz.prog 44 #[.pointer (some ⟨G, 0, none⟩), .string (str s)] w (GP w0 Od w G (textG g s)) := by
  have hobj := h.obj
  cases fs with
  | nil =>
    obtain ⟨a, c, rfl⟩ := h.op.shape
    have c0 : w.cell? ⟨G, 0, none⟩ = some (.slice a 0 c) := by rw [cell_of_row w G 0 _ _ (0, 0) hobj]; rfl
    have HE := Lib.hid (textG_top (s := s) (show g.st = [] from h.st.symm))
    have HT := Lib.hid (Trim_any (str s) (by rw [size_str]; omega) w hT)
    have hE := trim_nil s
    have H := Lib.hid h
    generalize Lib.trimF blankN (str s) = r at HT hE
    clear hobj h hT
    go_enter Tryz.func44, Tryz.ntmps44
    go_upto_region 2 with fail
    go_wp2_with fail
    refine HT.out.mono ?_
    rintro e w1 ⟨rfl, hb1⟩
    have HB1 := Lib.hid hb1
    clear hb1
    cases hall : s.all bl with
    | true =>
      rw [hall] at hE
      have hE2 : r.toList.isEmpty = true := by cases hr : r.toList with
        | nil => rfl
        | cons c t => rw [hr] at hE; cases hE
      have HA := Lib.hid hall
      clear hall
      go_wp2_with fail
      go_ret
      rw [HE.out, if_pos HA.out]
      exact ⟨rfl, _, _, _, _, H.out.below HB1.out⟩
    | false =>
      rw [hall] at hE
      have hE2 : r.toList.isEmpty = false := by cases hr : r.toList with
        | nil => rw [hr] at hE; cases hE
        | cons c t => rfl
      have HA := Lib.hid hall
      clear hall
      go_wp2_with fail
      go_ret
      rw [HE.out, if_neg (by rw [HA.out]; simp)]
      exact ⟨rfl, HB1.out⟩
  | cons f fs =>
    obtain ⟨O, c, rfl, hkc, hcell⟩ := h.top
    have hd := h.dl
    simp only [List.length_cons] at hd
    have HST := Lib.hid h.st
    have HM := Lib.hid hM
    obtain ⟨N, m, ats, va, vk, kd⟩ := f
    obtain ⟨K, hK⟩ : ∃ K, K = fs.length := ⟨_, rfl⟩
    rw [← hK] at h hcell hkc hd hobj
    have c0 : w.cell? ⟨G, 0, none⟩ = some (.slice (some ⟨O, 0, none⟩) (K + 1) c) := by rw [cell_of_row w G 0 _ _ (0, 0) hobj]; rfl
    have HIN := Lib.hid (inner_at hobj hcell hkc (by omega))
    dsimp only at HIN
    have HB1 := Lib.hid (h.below (w' := w.drew) (Below.refl _ _).drew)
    have H := Lib.hid h
    have hK1 : ((K : Int) + 1 == 0) = false := by simp; omega
    have hK2 : ¬ ((K : Int) + 1 = 0) := by omega
    clear h hcell hobj hK hT hM
    by_cases hsn : s = []
    · subst hsn
      have HE := Lib.hid (textG_nil HST.out.symm)
      have hz : str [] = ⟨#[]⟩ := rfl
      go_enter Tryz.func44, Tryz.ntmps44
      go_wp2_with fail
      go_ret
      rw [HE.out]
      exact ⟨rfl, _, _, _, _, H.out⟩
    have hne : (str s).toList.isEmpty = false := by
      rw [ByteArray.toList_eq, toList_str]
      cases s with
      | nil => exact absurd rfl hsn
      | cons c t => rfl
    have HSN := Lib.hid hsn
    clear hsn
    go_enter Tryz.func44, Tryz.ntmps44
    go_upto_region 7 with fail
    go_wp2_with fail
    refine HIN.out.mono ?_
    rintro e w1 ⟨rfl, hw1⟩
    have H1 := Lib.hid (show GR w0 Od G g _ _ _ F w1 by rw [hw1]; exact HB1.out)
    have HBW := Lib.hid (show Below w.heap.size w w1 by rw [hw1]; exact (Below.refl _ _).drew)
    clear hw1 HB1 HIN H c0
    have hf := H1.out.ok _ List.mem_cons_self
    have hrow := hf.row
    obtain ⟨ka, kc, hvk⟩ : ∃ a c, vk = .slice a kd.length c := by
      rcases hrow.2 with ⟨h1, h2⟩ | ⟨g, cap, cur, h1, _⟩
      · exact ⟨_, _, h1.trans (by rw [show kd.length = 0 from h2])⟩
      · exact ⟨_, _, h1⟩
    subst hvk
    have hkl : kd.length ≤ 4096 := H1.out.kids List.mem_cons_self
    have x2 : w1.cell? ⟨N, 2, none⟩ = some (.slice ka kd.length kc) := by rw [cell_of_row w1 N 2 _ _ (0, 0) hf.node]; rfl
    obtain ⟨L, hL⟩ : ∃ L, L = kd.length := ⟨_, rfl⟩
    have HL := Lib.hid hL
    rw [← hL] at x2 hkl
    obtain ⟨I, hI⟩ : ∃ I : Int, I = (L : Int) - 1 := ⟨_, rfl⟩
    have HI := Lib.hid hI
    have hLI : (L : Int) ≤ 4096 := by omega
    have hwI : IntKind.i64.wrap ((L : Int) - 1) = I := by rw [IntWalk.i64_in _ (by omega)]; exact hI.symm
    have HROW := Lib.hid hrow
    have HF := Lib.hid hf
    clear hI hrow hf hL
    by_cases hmg : ∃ l k, kd = l ++ [k] ∧ k.x.n = []
    · obtain ⟨l, k, rfl, hkn⟩ := hmg
      have hLl : L = l.length + 1 := by rw [HL.out]; simp
      have HLL := Lib.hid hLl
      have hIl : I = (l.length : Int) := by rw [HI.out, hLl]; omega
      subst hIl
      obtain ⟨KB, hka⟩ : ∃ g, ka = some ⟨g, 0, none⟩ := by
        rcases HROW.out.2 with ⟨h1, h2⟩ | ⟨g, cap, cur, h1, _⟩
        · simp at h2
        · cases h1; exact ⟨g, rfl⟩
      subst hka
      have hcl : ∀ c u, (kdL k)[c]? = some u → c < 4 → w1.cell? ⟨KB, l.length * 4 + c, none⟩ = some u := fun c u hu hc => by
        have h1 := HROW.out.cells (g := KB) rfl _ _ ((rowN_at (l ++ [k]) l.length c k (by simp) hc).trans hu)
        rw [show (⟨KB, 0, none⟩ : Addr).add (l.length * 4 + c) = ⟨KB, l.length * 4 + c, none⟩ by unfold Addr.add; split <;> rename_i h0 <;> simp [h0]] at h1
        exact h1
      have k0 : w1.cell? ⟨KB, l.length * 4, none⟩ = some (.string ⟨#[]⟩) := by
        have := hcl 0 _ rfl (by decide)
        rw [hkn] at this
        exact this
      have k3 : w1.cell? ⟨KB, l.length * 4 + 3, none⟩ = some (.string (str k.x.t)) := hcl 3 _ rfl (by decide)
      have fz : w1.frozen? ⟨KB, l.length * 4 + 3, none⟩ = false := World.ownsRow.frozenAt HROW.out _
      have hI0 : (0 : Int) ≤ (l.length : Int) := by omega
      have hIL : (l.length : Int) < (L : Int) := by omega
      have hkm : k.x.t.length ≤ M := HM.out _ (by rw [← HST.out]; exact List.mem_cons_self) k.x (by show k.x ∈ (l ++ [k]).map (·.x); simp)
      have hs1 : ((str k.x.t).size : Int) ≤ 5000000 := by rw [size_str]; omega
      have hs2 : ((str s).size : Int) ≤ 5000000 := by rw [size_str]; omega
      have hs3 : ((str k.x.t).size : Int) + ((str s).size : Int) ≤ 5000000 := by rw [size_str, size_str]; omega
      have HCAT := Lib.hid (app_str k.x.t s)
      have HE := Lib.hid (textG_put (s := s) (k := k.x) (ks := l.map (·.x)) HST.out.symm HSN.out (by show (l ++ [k]).map (·.x) = _; simp) hkn)
      have HP := Lib.hid (GR.put (c := kc) (K := KB) (l := l) (k := k) (by have := H1.out; rw [show (l ++ [k]).length = l.length + 1 by simp] at this; exact this) s)
      rw [← HCAT.out] at HP
      clear hcl hkn hLl hkm
      go_upto_region 8 with fail
      go_upto_region 9 with fail
      go_wp2_with fail
      go_ret
      rw [HE.out]
      have := HP.out
      simp only [List.map_append, List.map_cons, List.map_nil] at this
      exact ⟨rfl, _, _, _, _, this⟩
    · have HE := Lib.hid (textG_new (s := s) HST.out.symm HSN.out (fun k hk => by
        intro hn
        have hk' : (kd.map (·.x)).getLast? = some k := hk
        rcases List.eq_nil_or_concat kd with h0 | ⟨l, q, h0⟩
        · rw [h0] at hk'; cases hk'
        · rw [List.concat_eq_append] at h0
          rw [h0, List.map_append, List.map_cons, List.map_nil, List.getLast?_concat] at hk'
          cases hk'
          exact hmg ⟨l, q, h0, hn⟩))
      have hcase : ¬ (0 ≤ I) ∨ ∃ KB nm, ka = some ⟨KB, 0, none⟩ ∧ (0 : Int) ≤ I ∧ I < (L : Int) ∧ (∃ j : Nat, I = (j : Int) ∧ w1.cell? ⟨KB, j * 4, none⟩ = some (.string (str nm))) ∧ (str nm).toList.isEmpty = false := by
        rcases List.eq_nil_or_concat kd with h0 | ⟨l, q, h0⟩
        · left
          rw [HI.out, HL.out, h0]; simp
        · right
          rw [List.concat_eq_append] at h0
          obtain ⟨KB, hka⟩ : ∃ g, ka = some ⟨g, 0, none⟩ := by
            rcases HROW.out.2 with ⟨h1, h2⟩ | ⟨g, cap, cur, h1, _⟩
            · rw [h0] at h2; simp at h2
            · cases h1; exact ⟨g, rfl⟩
          subst hka
          have hl : L = l.length + 1 := by rw [HL.out, h0]; simp
          refine ⟨KB, q.x.n, rfl, by rw [HI.out, hl]; omega, by rw [HI.out]; omega, ⟨l.length, by rw [HI.out, hl]; omega, ?_⟩, ?_⟩
          · have h1 := HROW.out.cells (g := KB) rfl _ _ ((rowN_at kd l.length 0 q (by rw [h0]; simp) (by decide)).trans rfl)
            rw [show (⟨KB, 0, none⟩ : Addr).add (l.length * 4 + 0) = ⟨KB, l.length * 4, none⟩ by unfold Addr.add; split <;> rename_i h0 <;> simp_all] at h1
            exact h1
          · rw [ByteArray.toList_eq, toList_str]
            cases hq : q.x.n with
            | nil => exact absurd ⟨l, q, h0, hq⟩ hmg
            | cons c t => rfl
      have hobj1 := H1.out.obj
      have d2 : w1.cell? ⟨G, 2, none⟩ = some (.int .i64 (g.c : Int)) := by rw [cell_of_row w1 G 2 _ _ (0, 0) hobj1]; rfl
      have fd2 : w1.frozen? ⟨G, 2, none⟩ = false := frozen_of_row w1 G 2 _ _ hobj1
      have hcl := H1.out.cl
      clear hmg hobj1
      go_upto_region 8 with fail
      go_upto_region 9 with fail
      rcases hcase with hI0 | ⟨KB, nm, hka, hI0, hIL, ⟨j, rfl, k0⟩, hnm⟩
      rotate_left
      rw [hka] at x2 ⊢
      clear hka
      all_goals go_upto_region 12 with fail
      all_goals
        by_cases h4 : 4096 ≤ g.c
        case pos =>
          have h4I : (4096 : Int) ≤ (g.c : Int) := by omega
          have HE2 := Lib.hid (HE.out.trans (if_pos h4))
          clear h4 x2
          go_wp2_with fail
          go_ret
          rw [HE2.out]
          exact ⟨rfl, HBW.out⟩
        case neg =>
          have h4I : ¬ (4096 : Int) ≤ (g.c : Int) := by omega
          have hcI : (g.c : Int) ≤ 4096 := by omega
          have HE2 := Lib.hid (HE.out.trans (if_neg h4))
          have hc1 : g.c + 1 ≤ 4096 := by omega
          have HC := Lib.hid (H1.out.count hc1)
          rw [show ((g.c + 1 : Nat) : Int) = (g.c : Int) + 1 by omega] at HC
          clear h4
          go_upto_region 14 with fail
          go_upto_region 15 with fail
          generalize w1.setCell ⟨G, 2, none⟩ (.int .i64 ((g.c : Int) + 1)) = w2 at HC ⊢
          clear x2 d2 fd2
          have hf2 := HC.out.ok _ List.mem_cons_self
          have HF2 := Lib.hid hf2
          have y2 : w2.cell? ⟨N, 2, none⟩ = some (.slice ka L kc) := by rw [cell_of_row w2 N 2 _ _ (0, 0) hf2.node, HL.out]; rfl
          have y2a : ∀ o, (w2.alloc o).cell? ⟨N, 2, none⟩ = some (.slice ka L kc) := fun o => alloc1_cell y2 o
          have hrow2 := hf2.row
          dsimp only at hrow2
          rw [← HL.out] at hrow2
          have HROW2 := Lib.hid hrow2
          have hc2 := HC.out
          rw [← HL.out] at hc2
          have HC2 := Lib.hid hc2
          clear hc2
          have HTOT := Lib.hid (show Tr.size (Fr.tr ⟨N, m, ats, va, .slice ka L kc, kd⟩) + (Kd.tx s).x.size + Tr.sizes (fs.map Fr.tr) ≤ g.c + 1 by
            have := H1.out.tot
            rw [← H1.out.st] at this
            simp only [List.map_cons, Tr.sizes] at this
            have h1 : (Kd.tx s).x.size = 1 := rfl
            have h2 : Tr.size (Fr.tr ⟨N, m, ats, va, .slice ka L kc, kd⟩) = Tr.size (Fr.tr ⟨N, m, ats, va, .slice ka kd.length kc, kd⟩) := rfl
            omega)
          have HKL := Lib.hid (show L ≤ 100000 by omega)
          have hLL1 : (L : Int) < (L : Int) + 1 := by omega
          clear hf2 hrow2
          go_region_law (first
            | (refine stepN (w2 := w2) (.tmp 66) (.tmp 70) rfl rfl Kd.no w2.heap.size (by simp [Act.eval, Act.put]) (by simp [Act.eval, Act.put]) (by repeat (first | exact Below.refl _ _ | refine Below.drew ?_ | refine Below.alloc ?_ (by simp) _)) HROW2.out (heap_alloc_new _ _) rfl rfl HKL.out HC.out.b.size ?_; intro g1 q1 w7 ho7 hm7 hor7; obtain ⟨f7, c7, r0, r1, r2, r3, u0, u1, u2, u3, hgN, hgN2⟩ := tx_facts HC2.out HL.out hm7 ho7 hor7))
          all_goals
            have hdone := tx_done HC2.out HL.out hm7 ho7 hor7 s HTOT.out
            dsimp only at hdone
            have HD1 := Lib.hid hdone.1
            have HD2 := Lib.hid hdone.2
            clear hdone
            clear f7 c7 r0 r1 r2 r3 u0 u1 u2 u3 hgN hgN2 ho7 hm7 hor7 y2 y2a
            go_wp2_with fail
            go_ret
            rw [HE2.out]
            refine ⟨rfl, ?_⟩
            show ∃ f1 o1 r1 F1, GR w0 Od G ⟨(Tr.mk m ats (kd.map (·.x)) []).add (.mk [] [] [] s) :: fs.map Fr.tr, g.root, g.c + 1⟩ f1 o1 r1 F1 _
            first
              | with_reducible exact HD1.out
              | with_reducible exact HD2.out
end Go.Proofs.YtpbkidmdfibaoaaGreatDoor
