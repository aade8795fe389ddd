/-
  Layer 6: what coord.ParseGav and coord.ParseKey read, in one contract each, in words of the pieces; what is printed is read as the same. Own work.
-/
import Derived.Test.YtcmojpfolmcaoaaDoorParse6
namespace Go.Proofs.YtcmojpfolmcaoaaDoor
set_option linter.unusedVariables false
set_option linter.unusedSimpArgs false
open Go.RowKit

theorem str_list (l : List UInt8) : (str l).toList = l := by simp [ByteArray.toList_eq, str]
theorem lit_colon : (⟨#[58]⟩ : ByteArray) = str [58] := rfl
def gavErr : Value := .tuple #[gavV ⟨#[]⟩ ⟨#[]⟩ ⟨#[]⟩, .int .i64 1]
def keyErr : Value := .tuple #[keyV ⟨#[]⟩ ⟨#[]⟩ ⟨#[]⟩ ⟨#[]⟩, .int .i64 1]
def gavOut : Option (ByteArray × ByteArray × ByteArray) → Value
  | none => gavErr
  | some (g, a, v) => .tuple #[gavV g a v, .int .i64 0]
def keyOut : Option (ByteArray × ByteArray × ByteArray × ByteArray) → Value
  | none => keyErr
  | some (g, a, t, c) => .tuple #[keyV g a t c, .int .i64 0]
def parseGav (l : List UInt8) : Option (ByteArray × ByteArray × ByteArray) :=
  match pcs l with
  | [g, a, v] => if mayGav (str g) (str a) (str v) = true then some (str g, str a, str v) else none
  | _ => none
def parseKey (l : List UInt8) : Option (ByteArray × ByteArray × ByteArray × ByteArray) :=
  match pcs l with
  | [g, a, t] => if mayKey (str g) (str a) (str t) ⟨#[]⟩ = true then some (str g, str a, str t, ⟨#[]⟩) else none
  | [g, a, t, c] => if mayKey (str g) (str a) (str t) (str c) = true ∧ c ≠ [] then some (str g, str a, str t, str c) else none
  | _ => none
theorem ParseGav_any (s : ByteArray) (hs : s.size ≤ 1000000) (w : World) (hm : MaxOk w) :
    Calls Tryd.prog 62 #[.string s] w fun e w' => e = .returned (gavOut (parseGav s.data.toList)) ∧ Below w.heap.size w w' := by
  have hc := count_pcs s
  have hsp := splitB_pcs s
  have hle := pcs_len_le s.data.toList
  have hsz : s.data.toList.length = s.size := by simp
  by_cases h3 : (pcs s.data.toList).length = 3
  · obtain ⟨g, a, v, hp⟩ : ∃ g a v, pcs s.data.toList = [g, a, v] := by
      match pcs s.data.toList, h3 with
      | [g, a, v], _ => exact ⟨g, a, v, rfl⟩
    have hn : Lib.countB s ⟨#[58]⟩ = 2 := by omega
    rw [hn, hp] at hsp
    rw [hp] at hle
    have l1 := hle g (by simp)
    have l2 := hle a (by simp)
    have l3 := hle v (by simp)
    cases hk : mayGav (str g) (str a) (str v)
    · rw [show parseGav s.data.toList = none from by unfold parseGav; rw [hp]; simp [hk]]
      exact ParseGav_3_no s (str g) (str a) (str v) hs (by rw [size_str]; omega) (by rw [size_str]; omega) (by rw [size_str]; omega) hn hsp hk w hm
    · rw [show parseGav s.data.toList = some (str g, str a, str v) from by unfold parseGav; rw [hp]; simp [hk]]
      exact ParseGav_3 s (str g) (str a) (str v) hs (by rw [size_str]; omega) (by rw [size_str]; omega) (by rw [size_str]; omega) hn hsp hk w hm
  · rw [show parseGav s.data.toList = none from by
      unfold parseGav
      split
      · next h => rw [h] at h3; simp at h3
      · rfl]
    have hcl := Lib.countB_le ⟨#[58]⟩ (by decide) s.size s (Nat.le_refl _)
    exact ParseGav_few s hs _ (by omega) (by omega) _ rfl rfl w hm
theorem printed3 (s : ByteArray) (g a t : List UInt8) (hp : pcs s.data.toList = [g, a, t]) : printKey (str g) (str a) (str t) ⟨#[]⟩ = s := by
  have hj := joinC_pcs s.data.toList
  rw [hp] at hj
  unfold printKey
  rw [if_pos (by decide), lit_colon]
  simp only [app_str]
  rw [← str_toList s, ← hj]
  simp [joinC]
theorem printed4 (s : ByteArray) (g a t c : List UInt8) (hc : c ≠ []) (hp : pcs s.data.toList = [g, a, t, c]) : printKey (str g) (str a) (str t) (str c) = s := by
  have hj := joinC_pcs s.data.toList
  rw [hp] at hj
  unfold printKey
  rw [if_neg (by rw [size_str]; intro h; exact hc (List.length_eq_zero_iff.1 h)), lit_colon]
  simp only [app_str]
  rw [← str_toList s, ← hj]
  simp [joinC]
theorem printed4' (s : ByteArray) (g a t : List UInt8) (hp : pcs s.data.toList = [g, a, t, []]) : ((printKey (str g) (str a) (str t) (str [])).toList == s.toList) = false := by
  have hj := joinC_pcs s.data.toList
  rw [hp] at hj
  unfold printKey
  rw [if_pos (by decide), lit_colon]
  simp only [app_str]
  rw [str_list, ← str_toList s, str_list, ← hj]
  apply beq_false_of_ne
  intro h
  have := congrArg List.length h
  simp [joinC] at this
theorem ParseKey_any (s : ByteArray) (hs : s.size ≤ 1000000) (w : World) (hm : MaxOk w) :
    Calls Tryd.prog 63 #[.string s] w fun e w' => e = .returned (keyOut (parseKey s.data.toList)) ∧ Below w.heap.size w w' := by
  have hc := count_pcs s
  have hsp := splitB_pcs s
  have hle := pcs_len_le s.data.toList
  have hsz : s.data.toList.length = s.size := by simp
  by_cases h3 : (pcs s.data.toList).length = 3
  · obtain ⟨g, a, t, hp⟩ : ∃ g a v, pcs s.data.toList = [g, a, v] := by
      match pcs s.data.toList, h3 with
      | [g, a, v], _ => exact ⟨g, a, v, rfl⟩
    have hn : Lib.countB s ⟨#[58]⟩ = 2 := by omega
    rw [hn, hp] at hsp
    rw [hp] at hle
    have l1 := hle g (by simp)
    have l2 := hle a (by simp)
    have l3 := hle t (by simp)
    have hpr := printed3 s g a t hp
    cases hk : mayKey (str g) (str a) (str t) ⟨#[]⟩
    · rw [show parseKey s.data.toList = none from by unfold parseKey; rw [hp]; simp [hk]]
      exact ParseKey_3_no s (str g) (str a) (str t) hs (by rw [size_str]; omega) (by rw [size_str]; omega) (by rw [size_str]; omega) hn hsp hk w hm
    · rw [show parseKey s.data.toList = some (str g, str a, str t, ⟨#[]⟩) from by unfold parseKey; rw [hp]; simp [hk]]
      exact ParseKey_3 s (str g) (str a) (str t) hs (by rw [size_str]; omega) (by rw [size_str]; omega) (by rw [size_str]; omega) hn hsp hk (by rw [hpr]; simp) (by rw [hpr]; simp) w hm
  by_cases h4 : (pcs s.data.toList).length = 4
  · obtain ⟨g, a, t, c, hp⟩ : ∃ g a t c, pcs s.data.toList = [g, a, t, c] := by
      match pcs s.data.toList, h4 with
      | [g, a, t, c], _ => exact ⟨g, a, t, c, rfl⟩
    have hn : Lib.countB s ⟨#[58]⟩ = 3 := by omega
    rw [hn, hp] at hsp
    rw [hp] at hle
    have l1 := hle g (by simp)
    have l2 := hle a (by simp)
    have l3 := hle t (by simp)
    have l4 := hle c (by simp)
    cases hk : mayKey (str g) (str a) (str t) (str c)
    · rw [show parseKey s.data.toList = none from by unfold parseKey; rw [hp]; simp [hk]]
      exact ParseKey_4_no s (str g) (str a) (str t) (str c) hs (by rw [size_str]; omega) (by rw [size_str]; omega) (by rw [size_str]; omega) (by rw [size_str]; omega) hn hsp hk w hm
    · by_cases hc0 : c = []
      · subst hc0
        have hpr := printed4' s g a t hp
        rw [show parseKey s.data.toList = none from by unfold parseKey; rw [hp]; simp]
        exact ParseKey_4_other s (str g) (str a) (str t) (str []) hs (by rw [size_str]; omega) (by rw [size_str]; omega) (by rw [size_str]; omega) (by rw [size_str]; omega) hn hsp hk hpr (by rw [hpr]; rfl) w hm
      · have hpr := printed4 s g a t c hc0 hp
        rw [show parseKey s.data.toList = some (str g, str a, str t, str c) from by unfold parseKey; rw [hp]; simp [hk, hc0]]
        exact ParseKey_4_yes s (str g) (str a) (str t) (str c) hs (by rw [size_str]; omega) (by rw [size_str]; omega) (by rw [size_str]; omega) (by rw [size_str]; omega) hn hsp hk (by rw [hpr]; simp) (by rw [hpr]; simp) w hm
  · rw [show parseKey s.data.toList = none from by
      unfold parseKey
      split
      · next h => rw [h] at h3; simp at h3
      · next h => rw [h] at h4; simp at h4
      · rfl]
    have hcl := Lib.countB_le ⟨#[58]⟩ (by decide) s.size s (Nat.le_refl _)
    have hne : 0 < (pcs s.data.toList).length := List.length_pos_iff.2 (pcs_ne _)
    exact ParseKey_few s hs _ (by omega) (by omega) _ rfl rfl w hm
theorem idB_colon : idB 58 = false := by decide +kernel
theorem verB_colon : verB 58 = false := by decide +kernel
theorem isId_colon (s : ByteArray) (h : isId s = true) : ∀ c ∈ s.data.toList, c ≠ 58 := by
  unfold isId at h
  simp only [Bool.and_eq_true] at h
  intro c hc e
  subst e
  have := List.all_eq_true.1 h.2 _ hc
  rw [idB_colon] at this; cases this
theorem mayVer_colon (s : ByteArray) (h : mayVer s = true) : ∀ c ∈ s.data.toList, c ≠ 58 := by
  unfold mayVer at h
  simp only [Bool.and_eq_true] at h
  intro c hc e
  subst e
  have := List.all_eq_true.1 h.2 _ hc
  rw [verB_colon] at this; cases this
theorem isId_ne (s : ByteArray) (h : isId s = true) : s.data.toList ≠ [] := by
  intro e
  unfold isId at h
  simp only [Bool.and_eq_true, decide_eq_true_eq] at h
  have : s.data.toList.length = s.size := by simp
  rw [e] at this
  simp at this
  omega
theorem gav_back (g a v : ByteArray) (h : mayGav g a v = true) : parseGav (printGav g a v).data.toList = some (g, a, v) := by
  have h0 := h
  unfold mayGav at h
  simp only [Bool.and_eq_true] at h
  obtain ⟨⟨h1, h2⟩, h3⟩ := h
  have e : printGav g a v = str (g.data.toList ++ 58 :: (a.data.toList ++ 58 :: v.data.toList)) := by
    unfold printGav
    conv => lhs; rw [← str_toList g, ← str_toList a, ← str_toList v, lit_colon]
    simp only [app_str]
    simp
  rw [e, toList_str]
  unfold parseGav
  rw [pcs_app _ _ (isId_colon g h1), pcs_app _ _ (isId_colon a h2), pcs_plain _ (mayVer_colon v h3)]
  simp only [str_toList]
  rw [if_pos h0]
theorem key_back (g a t c : ByteArray) (h : mayKey g a t c = true) : parseKey (printKey g a t c).data.toList = some (g, a, t, c) := by
  have h0 := h
  unfold mayKey at h
  simp only [Bool.and_eq_true, Bool.or_eq_true, decide_eq_true_eq] at h
  obtain ⟨⟨⟨h1, h2⟩, h3⟩, h4⟩ := h
  by_cases hc : c.size = 0
  · have ec : c = ⟨#[]⟩ := by
      have : c.data.toList = [] := List.length_eq_zero_iff.1 (by simpa using hc)
      rw [← str_toList c, this]; rfl
    subst ec
    have e : printKey g a t ⟨#[]⟩ = str (g.data.toList ++ 58 :: (a.data.toList ++ 58 :: t.data.toList)) := by
      unfold printKey
      rw [if_pos (by decide)]
      conv => lhs; rw [← str_toList g, ← str_toList a, ← str_toList t, lit_colon]
      simp only [app_str]
      simp
    rw [e, toList_str]
    unfold parseKey
    rw [pcs_app _ _ (isId_colon g h1), pcs_app _ _ (isId_colon a h2), pcs_plain _ (isId_colon t h3)]
    simp only [str_toList]
    rw [if_pos h0]
  · have hi : isId c = true := by
      rcases h4 with h4 | h4
      · exact absurd h4 hc
      · exact h4
    have e : printKey g a t c = str (g.data.toList ++ 58 :: (a.data.toList ++ 58 :: (t.data.toList ++ 58 :: c.data.toList))) := by
      unfold printKey
      rw [if_neg hc]
      conv => lhs; rw [← str_toList g, ← str_toList a, ← str_toList t, ← str_toList c, lit_colon]
      simp only [app_str]
      simp
    rw [e, toList_str]
    unfold parseKey
    rw [pcs_app _ _ (isId_colon g h1), pcs_app _ _ (isId_colon a h2), pcs_app _ _ (isId_colon t h3), pcs_plain _ (isId_colon c hi)]
    simp only [str_toList]
    rw [if_pos ⟨h0, isId_ne c hi⟩]
end Go.Proofs.YtcmojpfolmcaoaaDoor
