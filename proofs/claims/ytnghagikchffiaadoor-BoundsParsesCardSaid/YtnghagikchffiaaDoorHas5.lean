/-
  Layer 5: the contracts of the answer's Has, of cut and Light. Own work.
-/
import Derived.Test.YtnghagikchffiaaDoorMay5b
import Derived.Test.YtnghagikchffiaaDoorRefVer4
namespace Go.Proofs.YtnghagikchffiaaDoor
set_option linter.unusedVariables false
set_option linter.unusedSimpArgs false
open Go.RowKit

theorem cut_at (s : ByteArray) (hs : s.size ≤ 9223372036854775807) (w : World) : Calls Tryd.prog 9 #[.string s] w fun e w' => ∃ t : ByteArray, e = .returned (.string t) ∧ t.size ≤ 300 ∧ w' = w := by
  by_cases h : 300 < s.size
  · have hI : (300 : Int) < s.size := by omega
    have hz : (s.extract 0 300).size ≤ 300 := by rw [ByteArray.size_extract]; omega
    have HZ := Lib.hid hz
    clear hz
    go_enter Tryd.func9, Tryd.ntmps9
    go_wp2
    go_ret
    exact ⟨_, rfl, HZ.out, rfl⟩
  · have hI : (s.size : Int) ≤ 300 := by omega
    go_enter Tryd.func9, Tryd.ntmps9
    go_wp2
    go_ret
    exact ⟨_, rfl, by omega, rfl⟩
def LightR (ver : ByteArray) (l : List Iv) : Prop := l.length ≤ 20 ∧ ver.size ≤ 100 ∧ ∀ p ∈ l, p.lo.ver.size ≤ 100 ∧ p.hi.ver.size ≤ 100
theorem LightR.small {ver : ByteArray} {l : List Iv} (h : LightR ver l) : ∀ p ∈ l, smallI p := fun p hp => by
  have := h.2.2 p hp
  unfold smallI smallE
  omega
def LightP (ver : ByteArray) (l : List Iv) (w : World) (e : Ending) (w' : World) : Prop := ∃ b, e = .returned (.bool b) ∧ (b = true → LightR ver l) ∧ Below w.heap.size w w'
set_option maxRecDepth 100000 in
set_option maxHeartbeats 1000000 in
theorem Light_at (hard : Bool) (ver : ByteArray) (pv : Value) (l : List Iv) (hver : okV ver) (hl : ∀ p ∈ l, okV p.lo.ver ∧ okV p.hi.ver) (w : World) (hr : RdI w pv l) :
    Calls Tryd.prog 14 #[.agg #[.bool hard, .string ver, pv]] w (LightP ver l w) := by
  obtain ⟨pa, pc, rfl⟩ : ∃ a c, pv = .slice a l.length c := by
    rcases hr with ⟨rfl, rfl⟩ | ⟨a, cap, rfl, _⟩
    · exact ⟨_, _, rfl⟩
    · exact ⟨_, _, rfl⟩
  have hlb : (l.length : Int) ≤ 9223372036854775807 := by
    rcases hr with ⟨_, rfl⟩ | ⟨a, cap, h, h1, h2, _⟩
    · simp
    · omega
  unfold okV at hver hl
  have HR := Lib.hid hr; clear hr
  have HL := Lib.hid hl; clear hl
  have hvI : (ver.size : Int) ≤ 9223372036854775807 := by omega
  have HB0 := Lib.hid ((Below.refl w.heap.size w).alloc (Nat.le_refl _) (.cells #[.bool hard, .string ver, .slice pa l.length pc] 25))
  by_cases h20 : 20 < l.length
  · have hI : (20 : Int) < l.length := by omega
    go_enter Tryd.func14, Tryd.ntmps14
    go_wp2
    go_ret
    exact ⟨false, rfl, by simp, HB0.out⟩
  have h20I : (l.length : Int) ≤ 20 := by omega
  by_cases h100 : 100 < ver.size
  · have hI : (100 : Int) < ver.size := by omega
    go_enter Tryd.func14, Tryd.ntmps14
    go_wp2
    go_ret
    exact ⟨false, rfl, by simp, HB0.out⟩
  have h100I : (ver.size : Int) ≤ 100 := by omega
  go_enter Tryd.func14, Tryd.ntmps14
  go_wp2_with fail
  generalize w.alloc (.cells #[.bool hard, .string ver, .slice pa l.length pc] 25) = w1 at HB0 ⊢
  go_loopw [18] (fun i wr => ∃ k : Nat, k ≤ l.length ∧ i = .int .i64 k ∧ (∀ p ∈ l.take k, p.lo.ver.size ≤ 100 ∧ p.hi.ver.size ≤ 100) ∧ Below w.heap.size w wr) (fun i _ => l.length - (intOf i).toNat)
  case atStart => exact ⟨0, by omega, rfl, by simp, HB0.out⟩
  case round =>
    obtain ⟨k, hk, rfl, hall, hb⟩ := hrel
    have HALL := Lib.hid hall
    have HB := Lib.hid hb
    clear hall
    by_cases hlt : k < l.length
    · obtain ⟨p, hp⟩ : ∃ p, l[k]? = some p := ⟨_, List.getElem?_eq_getElem hlt⟩
      obtain ⟨a, cap, hpv, _, _, hc⟩ : ∃ a cap, Value.slice pa l.length pc = .slice (some a) l.length cap ∧ l.length ≤ cap ∧ cap ≤ 9223372036854775807 ∧ ∀ (i : Nat) p, l[i]? = some p → ∀ (c : Nat) u, (ivCells p)[c]? = some u → w.cell? (a.add (i * 6 + c)) = some u := by
        rcases HR.out with ⟨_, h⟩ | h
        · subst h; simp at hlt
        · exact h
      cases hpv
      obtain ⟨k0, k1, k2, k3, k4, k5⟩ := RdI.at hc hp hb (Nat.le_refl _)
      obtain ⟨o1, o2⟩ := HL.out p (List.mem_of_getElem? hp)
      have HP := Lib.hid hp
      have hlt' : (k : Int) < l.length := by omega
      have HBA := Lib.hid (hb.alloc hb.size (.cells #[.bool p.lo.has, .string p.lo.ver, .bool p.lo.cl, .bool p.hi.has, .string p.hi.ver, .bool p.hi.cl] 61))
      clear hp hb hc
      obtain ⟨⟨lh, lv, lc⟩, ⟨hh, hv, hc⟩⟩ := p
      simp only at o1 o2 k0 k1 k2 k3 k4 k5
      have o1I : (lv.size : Int) ≤ 9223372036854775807 := by omega
      have o2I : (hv.size : Int) ≤ 9223372036854775807 := by omega
      by_cases hlo : 100 < lv.size
      · have hI : (100 : Int) < lv.size := by omega
        go_wp2
        go_ret
        exact ⟨false, rfl, by simp, HBA.out⟩
      have hloI : (lv.size : Int) ≤ 100 := by omega
      by_cases hhi : 100 < hv.size
      · have hI : (100 : Int) < hv.size := by omega
        go_wp2
        go_ret
        exact ⟨false, rfl, by simp, HBA.out⟩
      have hhiI : (hv.size : Int) ≤ 100 := by omega
      go_wp2
      go_roundw
      case rel =>
        refine ⟨k + 1, by omega, by go_num, fun q hq => ?_, HBA.out⟩
        rw [take_snoc _ k _ HP.out] at hq
        rcases List.mem_append.1 hq with hq | hq
        · exact HALL.out q hq
        · simp at hq; subst hq; exact ⟨by simp only; omega, by simp only; omega⟩
      case measure => simp [intOf]; omega
    · have hkl : k = l.length := by omega
      have hkI : (l.length : Int) ≤ k := by omega
      have HF := Lib.hid (show LightR ver l from ⟨by omega, by omega, fun p hp => HALL.out p (by rw [hkl, List.take_length]; exact hp)⟩)
      clear hkl hb
      go_wp2
      go_ret
      exact ⟨true, rfl, fun _ => HF.out, HB.out⟩
end Go.Proofs.YtnghagikchffiaaDoor
