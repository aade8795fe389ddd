/-
  Layer 1: small letters: the contracts of chars.Lower and of the cut of a text. Own work.
-/
import Derived.Test.YtnghagikchffiaaDoorBytes
import Derived.Lib.ConvBytes
namespace Go.Proofs.YtnghagikchffiaaDoor
set_option linter.unusedVariables false
set_option linter.unusedSimpArgs false
open Go.RowKit

def low1 (c : UInt8) : UInt8 := if 65 ≤ c.toNat ∧ c.toNat ≤ 90 then c + 32 else c
def lowS (l : List UInt8) : List UInt8 := l.map low1
theorem low1_add {c : UInt8} (h : 65 ≤ c.toNat ∧ c.toNat ≤ 90) : ((low1 c).toNat : Int) = c.toNat + 32 := by
  unfold low1
  rw [if_pos h, UInt8.toNat_add]
  have : (32 : UInt8).toNat = 32 := rfl
  omega
theorem low1_same {c : UInt8} (h : ¬ (65 ≤ c.toNat ∧ c.toNat ≤ 90)) : low1 c = c := by
  unfold low1; rw [if_neg h]
theorem low1_low (c : UInt8) : low1 (low1 c) = low1 c := by
  by_cases h : 65 ≤ c.toNat ∧ c.toNat ≤ 90
  · have := low1_add h
    rw [low1_same (c := low1 c) (by omega)]
  · rw [low1_same h, low1_same h]
theorem lowS_lowS (l : List UInt8) : lowS (lowS l) = lowS l := by
  simp [lowS, low1_low]

/-- the cell of a row of bytes while the first k are made small -/
def lowAt (l : List UInt8) (k j : Nat) : Int := if j < k then ((low1 (l.getD j 0)).toNat : Int) else ((l.getD j 0).toNat : Int)
theorem lowAt_step {l : List UInt8} {k j : Nat} (h : j ≠ k) : lowAt l (k + 1) j = lowAt l k j := by
  unfold lowAt
  by_cases h1 : j < k
  · rw [if_pos h1, if_pos (by omega)]
  · rw [if_neg h1, if_neg (by omega)]

theorem bytes_below (w : World) (e : TypeId) (s : ByteArray) : Below w.heap.size w (Lib.bytesWorld w e s) :=
  ⟨rfl, rfl, rfl, by rw [Lib.bytesWorld_size]; omega, fun k hk => Lib.bytesWorld_at_old w e s k hk⟩
theorem bytes_free (w : World) (e : TypeId) (s : ByteArray) (j : Nat) (hj : j < s.size) : (Lib.bytesWorld w e s).frozen? ⟨w.heap.size, j, none⟩ = false := by
  have h := Lib.bytesWorld_at_new w e s
  have hs : s.size ≤ (Lib.bytesCells w e s).size := by
    have : s.data.size = s.size := rfl
    simp [Lib.bytesCells] <;> omega
  simp only [World.frozen?, h]
  simp
  omega

set_option maxHeartbeats 1000000 in
set_option maxRecDepth 100000 in
theorem Lower_any (s : ByteArray) (hs : s.size ≤ 1000000) (w : World) :
    Calls Tryd.prog 80 #[.string s] w fun e w' => e = .returned (.string (str (lowS s.data.toList))) ∧ Below w.heap.size w w' := by
  have hlen : s.data.toList.length = s.size := by simp
  have HL := Lib.hid hlen; clear hlen
  have hcv := Lib.run_convert_string_bytes (P := Tryd.prog) w 9 83 5 s Tryd.underlying9 Tryd.underlying83 Tryd.underlying5
  have hwb := bytes_below w 5 s
  have hwf := bytes_free w 5 s
  have hwc := Lib.bytesWorld_cell w 5 s
  have hwz := Lib.bytesWorld_size w 5 s
  obtain ⟨wb, hwbe⟩ : ∃ wb, wb = Lib.bytesWorld w 5 s := ⟨_, rfl⟩
  obtain ⟨cap, hcap⟩ : ∃ cap, cap = grownCap w s.size 0 5 := ⟨_, rfl⟩
  rw [← hwbe] at hcv hwb hwf hwc hwz
  rw [← hcap] at hcv
  clear hwbe hcap
  have HWC := Lib.hid hwc; clear hwc
  have HWF := Lib.hid hwf; clear hwf
  have HWZ := Lib.hid hwz; clear hwz
  go_enter Tryd.func80, Tryd.ntmps80
  go_wp2
  go_loopw [10] (fun i wr => ∃ k : Nat, k ≤ s.size ∧ i = .int .i64 k ∧ Below w.heap.size w wr ∧ w.heap.size < wr.heap.size ∧
    (∀ j, j < s.size → wr.cell? ⟨w.heap.size, j, none⟩ = some (.int .u8 (lowAt s.data.toList k j))) ∧ (∀ j, j < s.size → wr.frozen? ⟨w.heap.size, j, none⟩ = false)) (fun i _ => s.size - (intOf i).toNat)
  case atStart =>
    exact ⟨0, Nat.zero_le _, rfl, hwb, by rw [HWZ.out]; omega, fun j hj => by rw [HWC.out j hj]; simp [lowAt], HWF.out⟩
  case round =>
    obtain ⟨k, hk, rfl, hb, hsz, hcell, hfr⟩ := hrel
    have HC := Lib.hid hcell; clear hcell
    have HF := Lib.hid hfr; clear hfr
    by_cases hlt : k < s.size
    · have hck := HC.out k hlt
      have hfk := HF.out k hlt
      obtain ⟨c, hc⟩ : ∃ c, s.data.toList[k]? = some c := ⟨_, List.getElem?_eq_getElem (by simpa using hlt)⟩
      have hgd : s.data.toList.getD k 0 = c := by simp only [List.getD, hc, Option.getD_some]
      have hla : lowAt s.data.toList k k = (c.toNat : Int) := by
        unfold lowAt
        rw [if_neg (by omega), hgd]
      rw [hla] at hck
      have hlb : lowAt s.data.toList (k + 1) k = ((low1 c).toNat : Int) := by
        unfold lowAt
        rw [if_pos (by omega), hgd]
      have HLB := Lib.hid hlb; clear hlb hla hgd hc
      have hc256 : (c.toNat : Int) < 256 := by have := c.toNat_lt; omega
      by_cases hup : 65 ≤ c.toNat ∧ c.toNat ≤ 90
      · have HU := Lib.hid (low1_add hup)
        have a1 : (65 : Int) ≤ c.toNat := by omega
        have a2 : (c.toNat : Int) ≤ 90 := by omega
        clear hup
        go_wp2
        go_roundw
        case rel =>
          refine ⟨k + 1, by omega, by go_num, hb.setCell (p := ⟨w.heap.size, k, none⟩) (Nat.le_refl _) _, by simpa [World.setCell] using hsz, fun j hj => ?_, fun j hj => (World.frozen?_setCell _ _ _ _).trans (HF.out j hj)⟩
          by_cases hjk : j = k
          · subst hjk
            rw [World.cell?_setCell_same _ _ _ hck, HLB.out, HU.out]
          · rw [World.cell?_setCell_other _ _ _ _ (by simp <;> omega), HC.out j hj, lowAt_step hjk]
        case measure => simp [intOf]; omega
      · have hsame : ∀ j, j < s.size → lowAt s.data.toList (k + 1) j = lowAt s.data.toList k j := by
          intro j hj
          by_cases hjk : j = k
          · subst hjk
            rw [HLB.out, low1_same hup]
            have h1 := HC.out j hj
            rw [hck] at h1
            simpa using h1
          · exact lowAt_step hjk
        have HS := Lib.hid hsame; clear hsame
        have hcase : (c.toNat : Int) < 65 ∨ (65 : Int) ≤ c.toNat ∧ (90 : Int) < c.toNat := by omega
        clear hup
        rcases hcase with a1 | ⟨a0, a1⟩
        all_goals
          go_wp2
          go_roundw
          case rel => exact ⟨k + 1, by omega, by go_num, hb, hsz, fun j hj => by rw [HC.out j hj, HS.out j hj], HF.out⟩
          case measure => simp [intOf]; omega
    · have hk2 : k = s.size := by omega
      have hconv := run_convert_bytes_arg wr 83 5 Tryd.underlying83 Tryd.underlying5 w.heap.size 0 s.size cap ((lowS s.data.toList).map (fun c => (c.toNat : Int))) (by simp [lowS]) (fun i hi => by
        rw [Nat.zero_add, HC.out i hi]
        unfold lowAt
        rw [if_pos (by omega)]
        have hi' : i < s.data.toList.length := by rw [HL.out]; exact hi
        simp only [List.getD, lowS, List.map_map, List.getElem?_map, List.getElem?_eq_getElem hi']
        rfl) 9 Tryd.underlying9
      have hstr : strOfNums ((lowS s.data.toList).map (fun c => (c.toNat : Int))) = str (lowS s.data.toList) := by
        unfold strOfNums str
        congr 2
        rw [List.map_map]
        conv => rhs; rw [← List.map_id (lowS s.data.toList)]
        apply List.map_congr_left
        intro c _
        simp
      rw [hstr] at hconv
      have HK := Lib.hid hk2; clear hk2 hstr
      go_wp2
      go_ret
      exact ⟨rfl, hb⟩

end Go.Proofs.YtnghagikchffiaaDoor
