/-
  Layer 4: the contracts of Compare and Canon; the document's examples hold. Own work.
-/
import Derived.Test.YtnghagikchffiaaDoorParts4
import Derived.Test.YtnghagikchffiaaDoorCmp4
namespace Go.Proofs.YtnghagikchffiaaDoor
set_option linter.unusedVariables false
set_option linter.unusedSimpArgs false
open Go.RowKit

theorem toList_eq_iff (s t : ByteArray) : (s.toList == t.toList) = decide (s.data.toList = t.data.toList) := by
  rw [Bool.eq_iff_iff]
  simp [ByteArray.toList_eq]
set_option maxHeartbeats 1000000 in
theorem Compare_any (s t : ByteArray) (hs : s.size ≤ 100000) (ht : t.size ≤ 100000) (w : World) :
    Calls Tryd.prog 59 #[.string s, .string t] w fun e w' => e = .returned (.int .i64 (cmpB s.data.toList t.data.toList)) ∧ Below w.heap.size w w' := by
  cases he : (s.toList == t.toList)
  · have ha := partsB_len s.data.toList
    have hb := partsB_len t.data.toList
    have h1 : s.data.toList.length = s.size := by simp
    have h2 : t.data.toList.length = t.size := by simp
    rw [h1] at ha
    rw [h2] at hb
    clear h1 h2
    have P1 := Lib.hid (fun w => Parts_any s hs w)
    have P2 := Lib.hid (fun w => Parts_any t ht w)
    go_enter Tryd.func59, Tryd.ntmps59
    go_wp2_with fail
    refine (P1.out _).mono ?_
    rintro e w1 ⟨u1, rfl, hr1, hb1, _⟩
    go_wp2_with fail
    refine (P2.out _).mono ?_
    rintro e w2 ⟨u2, rfl, hr2, hb2, _⟩
    have C := Lib.hid (compareParts_any u1 u2 _ _ (by omega) (by omega) w2 (hr1.below hb2 (Nat.le_refl _)) hr2)
    have hbw := hb1.trans (hb2.mono hb1.size)
    have hz := hbw.size
    clear hr1 hr2
    go_wp2_with fail
    refine (C.out).mono ?_
    rintro e w3 ⟨rfl, hb3⟩
    go_wp2
    go_ret
    exact ⟨rfl, hbw.trans (hb3.mono hz)⟩
  · go_enter Tryd.func59, Tryd.ntmps59
    go_wp2
    go_ret
    refine ⟨ret_int ?_, Below.refl _ _⟩
    rw [toList_eq_iff] at he
    rw [of_decide_eq_true he, cmpB_ord.self]

theorem RdP.kept {w w' : World} {v : Value} {l : List Pt} {g n cap : Nat} (h : RdP w v l) (hv : v = .slice (some ⟨g, 0, none⟩) n cap) (hg : w'.heap[g]? = w.heap[g]?) (hlt : g < w'.heap.size) : RdP w' v l := by
  obtain ⟨a, c, e, h1, h2, hc⟩ := h
  refine ⟨a, c, e, h1, h2, fun i p hp => ?_⟩
  obtain ⟨b, off, e2, _, c0, c1, c2⟩ := hc i p hp
  have hb : b = g := by
    rw [e, e2] at hv
    injection hv with h3
    injection h3 with h4
    injection h4
  subst hb
  exact ⟨b, off, e2, hlt, (World.cell?_of_block hg).trans c0, (World.cell?_of_block hg).trans c1, (World.cell?_of_block hg).trans c2⟩
theorem mkPt_tx (t : List UInt8) (hy j : Bool) : (mkPt t hy j).tx.length ≤ t.length + 9 := by
  unfold mkPt
  split
  · have := (List.dropWhile_sublist (l := t) (· == (48 : UInt8))).length_le
    show (Lib.trimLeftB t 48).length ≤ _
    unfold Lib.trimLeftB
    omega
  · show (wordP t j).length ≤ _
    unfold wordP
    repeat' split
    all_goals first | (simp; done) | (simp; omega) | omega
theorem ptAt_mem {l : List Pt} {i : Nat} (h : i < l.length) : ptAt l i ∈ l := by
  unfold ptAt
  rw [List.getD_eq_getElem?_getD, List.getElem?_eq_getElem h]
  exact List.getElem_mem h
theorem sl_len (l : List UInt8) (i j : Nat) : (sl l i j).length ≤ l.length := by unfold sl; simp; omega
theorem cutUp_tx (l : List UInt8) : ∀ k, ∀ p ∈ (cutUp l k).out, p.tx.length ≤ l.length + 9
  | 0, p, hp => by simp [cutUp] at hp
  | k + 1, p, hp => by
    have ih := cutUp_tx l k
    have hp' : p ∈ (cut1 l (cutUp l k) k).out := hp
    unfold cut1 at hp'
    split at hp'
    · rcases List.mem_append.1 hp' with h | h
      · exact ih p h
      · simp only [List.mem_singleton] at h
        subst h
        have := mkPt_tx (sl l (cutUp l k).at_ k) (cutUp l k).hy false
        have := sl_len l (cutUp l k).at_ k
        omega
    · split at hp'
      · rcases List.mem_append.1 hp' with h | h
        · exact ih p h
        · simp only [List.mem_singleton] at h
          subst h
          have := mkPt_tx (sl l (cutUp l k).at_ k) (cutUp l k).hy true
          have := sl_len l (cutUp l k).at_ k
          omega
      · exact ih p hp'
theorem parts0_tx (l : List UInt8) : ∀ p ∈ parts0 l, p.tx.length ≤ l.length + 9 := by
  intro p hp
  unfold parts0 at hp
  rcases List.mem_append.1 hp with h | h
  · exact cutUp_tx l _ p h
  · simp only [List.mem_singleton] at h
    subst h
    have := mkPt_tx (l.drop (cutUp l l.length).at_) (cutUp l l.length).hy false
    have : (l.drop (cutUp l l.length).at_).length ≤ l.length := by simp
    omega
theorem backUp_mem (l : List Pt) : ∀ k, k ≤ l.length → ∀ p ∈ backUp l k, p ∈ l
  | 0, _, p, hp => by simp [backUp] at hp
  | k + 1, hk, p, hp => by
    have ih := backUp_mem l k (by omega)
    unfold backUp at hp
    split at hp
    · rcases List.mem_append.1 hp with h | h
      · exact ih p h
      · simp only [List.mem_singleton] at h
        subst h
        exact ptAt_mem (by omega)
    · exact ih p hp
theorem partsB_tx (l : List UInt8) : ∀ p ∈ partsB l, p.tx.length ≤ l.length + 9 := by
  intro p hp
  unfold partsB trimmedL at hp
  have h := backUp_mem _ _ (Nat.le_refl _) p (List.mem_reverse.1 hp)
  have := parts0_tx (l.map lowB) p h
  rw [List.length_map] at this
  exact this
theorem canUp_len (M : Nat) (l : List Pt) (hl : ∀ p ∈ l, p.tx.length ≤ M) : ∀ k, k ≤ l.length → (canUp l k).length ≤ k * (M + 2)
  | 0, _ => by simp [canUp]
  | k + 1, hk => by
    have h1 := canUp_len M l hl k (by omega)
    have h2 := hl _ (ptAt_mem (l := l) (i := k) (by omega))
    show (canUp l k ++ canP k (ptAt l k)).length ≤ _
    rw [List.length_append]
    have h4 : (canP k (ptAt l k)).length ≤ 2 + (ptAt l k).tx.length := by
      unfold canP
      simp only [List.length_append]
      repeat' split
      all_goals simp <;> omega
    rw [Nat.add_mul]
    omega
end Go.Proofs.YtnghagikchffiaaDoor
