/-
  Layer 24: whether two locks are the same: contracts of slices.Equal over pins, of lock.Same and of its answer. Own work.
-/
import Derived.Test.YtcmojpfolmcaoaaDoorMayL24
import Derived.Laws.StructEq
namespace Go.Proofs.YtcmojpfolmcaoaaDoor
set_option linter.unusedVariables false
set_option linter.unusedSimpArgs false
open Go.RowKit

def sameP (p q : Pn) : Bool := (p.g.toList == q.g.toList) && ((p.a.toList == q.a.toList) && ((p.t.toList == q.t.toList) && ((p.c.toList == q.c.toList) && ((p.v.toList == q.v.toList) && (p.sc == q.sc)))))
theorem sameP_cases (p q : Pn) :
    (sameP p q = true ∧ (p.g.toList == q.g.toList) = true ∧ (p.a.toList == q.a.toList) = true ∧ (p.t.toList == q.t.toList) = true ∧ (p.c.toList == q.c.toList) = true ∧ (p.v.toList == q.v.toList) = true ∧ (p.sc == q.sc) = true) ∨
    (sameP p q = false ∧ (p.g.toList == q.g.toList) = false) ∨
    (sameP p q = false ∧ (p.g.toList == q.g.toList) = true ∧ (p.a.toList == q.a.toList) = false) ∨
    (sameP p q = false ∧ (p.g.toList == q.g.toList) = true ∧ (p.a.toList == q.a.toList) = true ∧ (p.t.toList == q.t.toList) = false) ∨
    (sameP p q = false ∧ (p.g.toList == q.g.toList) = true ∧ (p.a.toList == q.a.toList) = true ∧ (p.t.toList == q.t.toList) = true ∧ (p.c.toList == q.c.toList) = false) ∨
    (sameP p q = false ∧ (p.g.toList == q.g.toList) = true ∧ (p.a.toList == q.a.toList) = true ∧ (p.t.toList == q.t.toList) = true ∧ (p.c.toList == q.c.toList) = true ∧ (p.v.toList == q.v.toList) = false) ∨
    (sameP p q = false ∧ (p.g.toList == q.g.toList) = true ∧ (p.a.toList == q.a.toList) = true ∧ (p.t.toList == q.t.toList) = true ∧ (p.c.toList == q.c.toList) = true ∧ (p.v.toList == q.v.toList) = true ∧ (p.sc == q.sc) = false) := by
  unfold sameP
  generalize (p.g.toList == q.g.toList) = b0
  generalize (p.a.toList == q.a.toList) = b1
  generalize (p.t.toList == q.t.toList) = b2
  generalize (p.c.toList == q.c.toList) = b3
  generalize (p.v.toList == q.v.toList) = b4
  generalize (p.sc == q.sc) = b5
  cases b0 <;> cases b1 <;> cases b2 <;> cases b3 <;> cases b4 <;> cases b5 <;> simp
def sameAt (l m : List Pn) (i : Nat) : Bool := match l[i]?, m[i]? with | some p, some q => sameP p q | _, _ => true
def sameL (l m : List Pn) : Bool := decide (l.length = m.length) && (List.range l.length).all (sameAt l m)
theorem sameL_yes {l m : List Pn} (h : l.length = m.length) (ha : ∀ i, i < l.length → sameAt l m i = true) : sameL l m = true := by
  unfold sameL
  rw [decide_eq_true h, Bool.true_and, List.all_eq_true]
  intro i hi
  exact ha i (List.mem_range.1 hi)
theorem sameL_no {l m : List Pn} {i : Nat} (hi : i < l.length) (h : sameAt l m i = false) : sameL l m = false := by
  rw [Bool.eq_false_iff]
  intro ha
  unfold sameL at ha
  simp only [Bool.and_eq_true, List.all_eq_true] at ha
  rw [ha.2 i (List.mem_range.2 hi)] at h
  cases h
theorem sameAt_is {l m : List Pn} {i : Nat} {p q : Pn} (hp : l[i]? = some p) (hq : m[i]? = some q) : sameAt l m i = sameP p q := by unfold sameAt; rw [hp, hq]
set_option maxRecDepth 100000 in
set_option maxHeartbeats 4000000 in
theorem Equal_any (v1 v2 : Value) (l m : List Pn) (hl : l.length ≤ 1000000) (hm : m.length ≤ 1000000) (w : World) (h1 : RdN w v1 l) (h2 : RdN w v2 m) :
    Calls Tryd.prog 33 #[v1, v2] w fun e w' => e = .returned (.bool (sameL l m)) ∧ Below w.heap.size w w' := by
  obtain ⟨a1, c1, rfl⟩ := h1.shape
  obtain ⟨a2, c2, rfl⟩ := h2.shape
  have HR1 := Lib.hid h1
  have HR2 := Lib.hid h2
  clear h1 h2
  by_cases hlm : l.length = m.length
  case neg =>
    have hne : ((l.length : Int) != m.length) = true := by simp; omega
    have HF := Lib.hid (show sameL l m = false by unfold sameL; rw [decide_eq_false hlm]; rfl)
    go_enter Tryd.func33, Tryd.ntmps33
    go_wp2
    go_ret
    exact ⟨ret_bool HF.out.symm, Below.refl _ _⟩
  have hne : ((l.length : Int) != m.length) = false := by simp; omega
  have hlI : (l.length : Int) ≤ 1000000 := by omega
  have HLM := Lib.hid hlm
  clear hlm
  go_enter Tryd.func33, Tryd.ntmps33
  go_wp2_with fail
  go_loopw [13] (fun i wr => ∃ k : Nat, k ≤ l.length ∧ i = .int .i64 k ∧ (∀ j, j < k → sameAt l m j = true) ∧ Below w.heap.size w wr) (fun i _ => l.length - (intOf i).toNat)
  case atStart => exact ⟨0, by omega, rfl, fun j hj => by omega, Below.refl _ _⟩
  case round =>
    obtain ⟨k, hk, rfl, hall, hb⟩ := hrel
    have HALL := Lib.hid hall
    have HB := Lib.hid hb
    clear hall
    by_cases hlt : k < l.length
    · obtain ⟨p, hp⟩ : ∃ p, l[k]? = some p := ⟨_, List.getElem?_eq_getElem hlt⟩
      have hltm : k < m.length := by have := HLM.out; omega
      obtain ⟨q, hq⟩ : ∃ q, m[k]? = some q := ⟨_, List.getElem?_eq_getElem hltm⟩
      obtain ⟨b1, rfl, _, _, _, hc1⟩ := HR1.out.elem hp
      obtain ⟨b2, rfl, _, _, _, hc2⟩ := HR2.out.elem hq
      obtain ⟨k0, k1, k2, k3, k4, k5⟩ := RdN.at hc1 hp hb (Nat.le_refl _)
      obtain ⟨m0, m1, m2, m3, m4, m5⟩ := RdN.at hc2 hq hb (Nat.le_refl _)
      have HSA := Lib.hid (sameAt_is hp hq)
      have hltI : (k : Int) < l.length := by omega
      have hltM : (k : Int) < m.length := by omega
      have hk0 : (0 : Int) ≤ k := by omega
      clear hc1 hc2 hp hq hb
      rcases sameP_cases p q with ⟨hs, e0, e1, e2, e3, e4, e5⟩ | ⟨hs, e0⟩ | ⟨hs, e0, e1⟩ | ⟨hs, e0, e1, e2⟩ | ⟨hs, e0, e1, e2, e3⟩ | ⟨hs, e0, e1, e2, e3, e4⟩ | ⟨hs, e0, e1, e2, e3, e4, e5⟩
      case inl =>
        have HS := Lib.hid hs
        clear hs
        go_wp2_with fail
        go_quiet (fail)
        go_wp2
        go_roundw
        case rel =>
          refine ⟨k + 1, by omega, by go_num, fun j hj => ?_, below_drewN HB.out _⟩
          by_cases hjk : j = k
          · subst hjk; rw [HSA.out]; exact HS.out
          · exact HALL.out j (by omega)
        case measure => simp [intOf]; omega
      all_goals
        have HS := Lib.hid hs
        clear hs
        go_wp2_with fail
        go_quiet (fail)
        go_wp2
        go_ret
        exact ⟨ret_bool (sameL_no hlt (by rw [HSA.out]; exact HS.out)).symm, below_drewN HB.out _⟩
    · have hkl : k = l.length := by omega
      have hlt' : (l.length : Int) ≤ k := by omega
      have HF := Lib.hid (show sameL l m = true from sameL_yes HLM.out (by rw [← hkl]; exact HALL.out))
      clear hkl hb
      go_wp2
      go_ret
      exact ⟨ret_bool HF.out.symm, HB.out⟩
def sameG (g a v g' a' v' : ByteArray) : Bool := (g.toList == g'.toList) && ((a.toList == a'.toList) && (v.toList == v'.toList))
theorem sameG_cases (g a v g' a' v' : ByteArray) :
    (sameG g a v g' a' v' = true ∧ (g.toList == g'.toList) = true ∧ (a.toList == a'.toList) = true ∧ (v.toList == v'.toList) = true) ∨
    (sameG g a v g' a' v' = false ∧ (g.toList == g'.toList) = false) ∨
    (sameG g a v g' a' v' = false ∧ (g.toList == g'.toList) = true ∧ (a.toList == a'.toList) = false) ∨
    (sameG g a v g' a' v' = false ∧ (g.toList == g'.toList) = true ∧ (a.toList == a'.toList) = true ∧ (v.toList == v'.toList) = false) := by
  unfold sameG
  generalize (g.toList == g'.toList) = b0
  generalize (a.toList == a'.toList) = b1
  generalize (v.toList == v'.toList) = b2
  cases b0 <;> cases b1 <;> cases b2 <;> simp
def sameLk (g a v : ByteArray) (l : List Pn) (g' a' v' : ByteArray) (m : List Pn) : Bool := sameG g a v g' a' v' && sameL l m
set_option maxRecDepth 100000 in
set_option maxHeartbeats 4000000 in
theorem Same_any (g a v g' a' v' : ByteArray) (v1 v2 : Value) (l m : List Pn) (hl : l.length ≤ 1000000) (hm : m.length ≤ 1000000) (w : World) (h1 : RdN w v1 l) (h2 : RdN w v2 m) :
    Calls Tryd.prog 13 #[lockV g a v v1, lockV g' a' v' v2] w fun e w' => e = .returned (.bool (sameLk g a v l g' a' v' m)) ∧ Below w.heap.size w w' := by
  have HEQ := Lib.hid (fun w' (hb : Below w.heap.size w w') => Equal_any v1 v2 l m hl hm w' (h1.below hb (Nat.le_refl _)) (h2.below hb (Nat.le_refl _)))
  have HSK := Lib.hid (show sameLk g a v l g' a' v' m = (sameG g a v g' a' v' && sameL l m) from rfl)
  have HB0 := Lib.hid (show Below w.heap.size w ((w.alloc (.cells #[.string g, .string a, .string v, v1] 26)).alloc (.cells #[.string g', .string a', .string v', v2] 26)) from ((Below.refl w.heap.size w).alloc (Nat.le_refl _) _).alloc (by simp) _)
  obtain ⟨a1, c1, rfl⟩ := h1.shape
  obtain ⟨a2, c2, rfl⟩ := h2.shape
  clear h1 h2
  unfold lockV
  rcases sameG_cases g a v g' a' v' with ⟨hs, e0, e1, e2⟩ | ⟨hs, e0⟩ | ⟨hs, e0, e1⟩ | ⟨hs, e0, e1, e2⟩
  case inl =>
    have HS := Lib.hid hs
    clear hs
    go_enter Tryd.func13, Tryd.ntmps13
    go_wp2_with fail
    refine (HEQ.out _ HB0.out).mono ?_
    rintro e w2 ⟨rfl, hb2⟩
    have HB2 := Lib.hid (HB0.out.trans (hb2.mono HB0.out.size))
    clear hb2
    go_wp2
    go_ret
    exact ⟨ret_bool (by rw [HSK.out, HS.out, Bool.true_and]), HB2.out⟩
  all_goals
    have HS := Lib.hid hs
    clear hs
    go_enter Tryd.func13, Tryd.ntmps13
    go_wp2
    go_ret
    exact ⟨ret_bool (by rw [HSK.out, HS.out, Bool.false_and]), HB0.out⟩
end Go.Proofs.YtcmojpfolmcaoaaDoor
