/-
  Layer 24: the contract of the statements' Light. Own work.
-/
import Derived.Test.YtoibanffaebllaaMayL24
import Derived.Test.YtoibanffaebllaaOpen24
namespace Go.Proofs.Ytoibanffaebllaa
set_option linter.unusedVariables false
set_option linter.unusedSimpArgs false
open Go.RowKit

def lightP (g a v : ByteArray) (l : List Pn) : Prop := l.length ≤ 40 ∧ g.size + a.size + v.size ≤ 600 ∧ ∀ p ∈ l, p.g.size + p.a.size + p.t.size + p.c.size + p.v.size ≤ 1000
def LightP (g a v : ByteArray) (l : List Pn) (w : World) (e : Ending) (w' : World) : Prop := ∃ b : Bool, e = .returned (.bool b) ∧ (b = true → lightP g a v l) ∧ Below w.heap.size w w'
set_option maxRecDepth 100000 in
set_option maxHeartbeats 4000000 in
theorem Light_any (g a v : ByteArray) (hg : okR g) (ha : okR a) (hv : okR v) (pv : Value) (l : List Pn) (hok : ∀ p ∈ l, okK p) (w : World) (hr : RdN w pv l) :
    Calls Try.prog 8 #[lockV g a v pv] w (LightP g a v l w) := by
  have hlI : (l.length : Int) ≤ 9223372036854775807 := by
    rcases hr with ⟨_, rfl⟩ | ⟨a, cap, _, h1, h2, _⟩
    · simp
    · omega
  obtain ⟨pa, pc, rfl⟩ := hr.shape
  have HR := Lib.hid hr
  have HOK := Lib.hid hok
  have HB0 := Lib.hid (show Below w.heap.size w (w.alloc (.cells #[.string g, .string a, .string v, .slice pa l.length pc] 26)) from (Below.refl w.heap.size w).alloc (Nat.le_refl _) _)
  have hlk := LkIn.new w g a v (.slice pa l.length pc)
  unfold okR at hg ha hv
  clear hr hok
  unfold lockV
  by_cases h40 : l.length ≤ 40
  case neg =>
    have hI : (40 : Int) < l.length := by omega
    clear hlk
    go_enter Try.func8, Try.ntmps8
    go_wp2
    go_ret
    exact ⟨false, rfl, fun h => (by cases h), HB0.out⟩
  have hI : (l.length : Int) ≤ 40 := by omega
  by_cases h600 : g.size + a.size + v.size ≤ 600
  case neg =>
    have hJ : (600 : Int) < (g.size : Int) + a.size + v.size := by omega
    clear hlk
    go_enter Try.func8, Try.ntmps8
    go_wp2
    all_goals first
      | (exfalso; omega)
      | (go_ret
         exact ⟨false, rfl, fun h => (by cases h), HB0.out⟩)
  have hJ : (g.size : Int) + a.size + v.size ≤ 600 := by omega
  go_enter Try.func8, Try.ntmps8
  go_upto_region 1 with fail
  generalize w.alloc (.cells #[.string g, .string a, .string v, .slice pa l.length pc] 26) = w1 at HB0 hlk ⊢
  obtain ⟨y0, y1, y2, y3⟩ := hlk
  go_upto_region 3 with fail
  all_goals first
    | (exfalso; omega)
    | skip
  go_wp2_with fail
  clear y0 y1 y2 y3
  go_loopw [29] (fun i wr => ∃ k : Nat, k ≤ l.length ∧ i = .int .i64 k ∧ (∀ j p, j < k → l[j]? = some p → p.g.size + p.a.size + p.t.size + p.c.size + p.v.size ≤ 1000) ∧ Below w1.heap.size w1 wr) (fun i _ => l.length - (intOf i).toNat)
  case atStart => exact ⟨0, by omega, rfl, fun j p hj => by omega, Below.refl _ _⟩
  case round =>
    obtain ⟨k, hk, rfl, hall, hb⟩ := hrel
    have HALL := Lib.hid hall
    have HB := Lib.hid hb
    have hbw := HB0.out.trans (hb.mono HB0.out.size)
    have HBW := Lib.hid hbw
    clear hall
    by_cases hlt : k < l.length
    · obtain ⟨p, hp⟩ : ∃ p, l[k]? = some p := ⟨_, List.getElem?_eq_getElem hlt⟩
      obtain ⟨b, rfl, _, _, _, hc⟩ := HR.out.elem hp
      obtain ⟨k0, k1, k2, k3, k4, k5⟩ := RdN.at hc hp hbw (Nat.le_refl _)
      obtain ⟨z0, z1, z2, z3, z4, _, _⟩ := HOK.out p (List.mem_of_getElem? hp)
      unfold okR at z0 z1 z2 z3 z4
      have hltI : (k : Int) < l.length := by omega
      have HP := Lib.hid hp
      have HBA := Lib.hid (hb.alloc hb.size (.cells #[.string p.g, .string p.a, .string p.t, .string p.c, .string p.v, .int .i64 p.sc] 48))
      clear hc hp hb hbw
      by_cases h1000 : p.g.size + p.a.size + p.t.size + p.c.size + p.v.size ≤ 1000
      · have hQ : (p.g.size : Int) + p.a.size + p.t.size + p.c.size + p.v.size ≤ 1000 := by omega
        go_wp2
        all_goals first
          | (exfalso; omega)
          | skip
        go_roundw
        case rel =>
          refine ⟨k + 1, by omega, by go_num, fun j q hj hq => ?_, HBA.out⟩
          by_cases hjk : j = k
          · subst hjk
            have := HP.out.symm.trans hq
            cases this
            exact h1000
          · exact HALL.out j q (by omega) hq
        case measure => simp [intOf]; omega
      · have hQ : (1000 : Int) < (p.g.size : Int) + p.a.size + p.t.size + p.c.size + p.v.size := by omega
        go_wp2
        all_goals first
          | (exfalso; omega)
          | (go_ret
             exact ⟨false, rfl, fun h => (by cases h), HB0.out.trans (HBA.out.mono HB0.out.size)⟩)
    · have hkl : k = l.length := by omega
      have hlt' : (l.length : Int) ≤ k := by omega
      have HF := Lib.hid (show lightP g a v l from ⟨h40, h600, fun p hp => by
        obtain ⟨i, hi, hpi⟩ := List.getElem_of_mem hp
        exact HALL.out i p (by omega) (by rw [List.getElem?_eq_getElem hi, hpi])⟩)
      clear hkl hb hbw
      go_wp2
      go_ret
      exact ⟨true, rfl, fun _ => HF.out, HBW.out⟩
end Go.Proofs.Ytoibanffaebllaa
