/-
  Layer 24: the contracts of the document's answers Lines, words and Pieces, for texts of at most 3000 bytes. Own work.
-/
import Derived.Test.YtcmojpfolmcaoaaDoorPcsD
import Derived.Test.YtcmojpfolmcaoaaDoorMatch
import Derived.Laws.OwnMore
import Derived.OwnWalk
import Derived.RegionTactic
namespace Go.Proofs.YtcmojpfolmcaoaaDoor
set_option linter.unusedVariables false
set_option linter.unusedSimpArgs false
open Go.RowKit

theorem st_info : (Tryd.prog.info? 9).map (fun i => (i.zero, i.size, i.bytes)) = some (some (.string ByteArray.empty), 1, 16) := by kernel_rfl
def strV (l : List UInt8) : Value := .string (str l)
/-- what Pieces holds when k bytes are read -/
def PieceRelD (d : UInt8) (s : ByteArray) (w wr : World) (v i : Value) : Prop :=
  ∃ (k n : Nat) (u : Value), u = v ∧ k ≤ s.size ∧ i = .int .i64 k ∧ n = (pcd d (s.data.toList.take k)).length ∧ wr.ownsRow w.heap.size 9 1 u n ((pcd d (s.data.toList.take k)).map strV) ∧ Below w.heap.size w wr
theorem pcd_len_le' {d : UInt8} (l : List UInt8) : (pcd d l).length ≤ l.length + 1 := by
  induction l with
  | nil => simp [pcd]
  | cons c r ih =>
    by_cases hc : c = d
    · subst hc; rw [pcd_colon]; simp only [List.length_cons]; omega
    · obtain ⟨p, q, hpq⟩ : ∃ p q, pcd d r = p :: q := by
        cases h : pcd d r with
        | nil => exact absurd h (pcd_ne r)
        | cons p q => exact ⟨p, q, rfl⟩
      rw [pcd_other c r hc _ _ hpq]
      rw [hpq] at ih
      simp only [List.length_cons] at ih ⊢; omega
def PiecePostD (d : UInt8) (s : ByteArray) (w : World) (e : Ending) (w' : World) : Prop :=
  ∃ v, e = .returned v ∧ SlOf w' strV v (pcd d s.data.toList) ∧ Below w.heap.size w w'
set_option maxHeartbeats 2000000 in
theorem Pieces_any (s : ByteArray) (hs : s.size ≤ 3000) (w : World) :
    Calls Tryd.prog 37 #[.string s] w (PiecePostD 58 s w) := by
  have hsz : (s.size : Int) ≤ 3000 := by omega
  go_enter Tryd.func37, Tryd.ntmps37
  go_wp2_with fail
  go_loopw [3, 4] (fun v i wr => PieceRelD 58 s w wr v i) (fun _ i _ => s.size - (intOf i).toNat)
  case atStart =>
    refine ⟨0, 1, _, rfl, Nat.zero_le _, rfl, rfl, ?_, (Below.refl _ _).alloc (Nat.le_refl _) _⟩
    exact World.ownsRow_lit w #[.string ⟨#[]⟩] 1 (Nat.le_refl _) (by decide) rfl
  case round =>
    obtain ⟨k, n, v, rfl, hk, rfl, hn, hown, hb⟩ := hrel
    by_cases hlt : k < s.size
    · have hlt' : (k : Int) < s.size := by omega
      obtain ⟨c, hc⟩ : ∃ c, s.data.toList[k]? = some c := ⟨_, List.getElem?_eq_getElem (by simpa using hlt)⟩
      have hix := bidx s k c hc
      have hts := take_snoc s.data.toList k c hc
      have hex := ext_one s k c hc
      have hnl : n ≤ k + 1 := by
        rw [hn]; exact Nat.le_trans (pcd_len_le' _) (by have := List.length_take_le k s.data.toList; omega)
      have hn1 : 1 ≤ n := by rw [hn]; exact List.length_pos_iff.2 (pcd_ne _)
      have HT := Lib.hid hts; clear hts
      have HX := Lib.hid hex; clear hex
      have HC := Lib.hid hc; clear hc
      by_cases h58 : c = 58
      · subst h58
        have HN := Lib.hid hn; clear hn
        have HK := Lib.hid hk; clear hk
        have hu : Tryd.prog.underlying 69 = some (.slice 9) := Tryd.underlying69
        go_wp2_with (at_builtin
                     refine app1 rfl _ _ 69 9 rfl (.string ByteArray.empty) 16 w.heap.size n Tryd.underlying69 st_info rfl v _ rfl hown rfl rfl (by omega) (by omega) hb.size ?_)
        intro v' w' ho' hg' hb'
        go_wp2
        go_roundw
        case rel =>
          refine ⟨k + 1, n + 1, _, rfl, by omega, by go_num, ?_, ?_, hb.trans hb'⟩
          · rw [HT.out, pcd_snoc_colon, List.length_append, ← HN.out]; rfl
          · rw [HT.out, pcd_snoc_colon, List.map_append]; exact ho'
        case measure => simp [intOf]; omega
      · have hne : ((c.toNat : Int) == 58) = false := by
          apply beq_false_of_ne
          intro e
          apply h58
          apply UInt8.toNat_inj.1
          have : c.toNat = 58 := by omega
          rw [this]; rfl
        obtain ⟨q, p, hq1, hq2⟩ := pcd_snoc_other c h58 (s.data.toList.take k)
        have hpk : p.length ≤ k := Nat.le_trans (pcd_len_le (s.data.toList.take k) p (by rw [hq1]; simp)) (List.length_take_le _ _)
        rw [hq1] at hown hn
        have hnq : n = q.length + 1 := by rw [hn]; simp
        subst hnq
        obtain ⟨g, cap, rfl⟩ : ∃ g cap, v = .slice (some ⟨g, 0, none⟩) (q.length + 1) cap := by
          rcases hown.2 with ⟨_, h0⟩ | ⟨g, cap, cur, hv, _⟩
          · omega
          · exact ⟨g, cap, hv⟩
        have hcell := hown.cellAt q.length (by omega)
        rw [List.map_append, List.getElem?_append_right (by simp)] at hcell
        simp only [List.length_map, Nat.sub_self, List.map_cons, List.map_nil, List.getElem?_cons_zero, strV] at hcell
        have hfr := hown.frozenAt q.length
        have hst := hown.stored q.length (strV (p ++ [c]))
        have hlt2 := hown.lt g rfl
        have HS := Lib.hid hst; clear hst
        have HQ1 := Lib.hid hq1
        have HQ2 := Lib.hid hq2
        clear hq1 hq2 h58 hn hown
        have hno : ¬ (9223372036854775807 < (str p).size + (s.extract k (k + 1)).size) := by rw [HX.out, size_str, size_str]; simp only [List.length_singleton]; omega
        have hi1 : (↑(q.length + 1) : Int) - 1 = (q.length : Int) := by omega
        have j1 : (0 : Int) ≤ k := by omega
        have j2 : (k : Int) ≤ k + 1 := by omega
        have j3 : (k : Int) + 1 ≤ s.size := by omega
        have j4 : (0 : Int) ≤ (k : Int) + 1 := by omega
        go_wp2_with fail
        go_region
        go_wp2
        go_roundw
        case rel =>
          refine ⟨k + 1, q.length + 1, _, rfl, by omega, by go_num, ?_, ?_, (hb.setCell (p := ⟨g, q.length, none⟩) hlt2.1 _).drew⟩
          · rw [HT.out, HQ2.out]; simp
          · rw [HX.out, app_str, HT.out, HQ2.out]
            have h0 := HS.out.1
            have he : ((q ++ [p]).map strV).set q.length (strV (p ++ [c])) = (q ++ [p ++ [c]]).map strV := by simp [List.set_append]
            rw [he] at h0
            exact h0.drew
        case measure => simp [intOf]; omega
    · have hk' : k = s.size := by omega
      subst hk'
      have ht : s.data.toList.take s.size = s.data.toList := List.take_of_length_le (by simp)
      rw [ht] at hown hn
      have HO := Lib.hid hown
      have HN := Lib.hid hn
      clear hown hn
      go_wp2
      go_ret
      exact ⟨_, rfl, SlOf.of_own (f := strV) (by rw [← HN.out]; exact HO.out), hb⟩
set_option maxHeartbeats 2000000 in
theorem Lines_any (s : ByteArray) (hs : s.size ≤ 3000) (w : World) :
    Calls Tryd.prog 36 #[.string s] w (PiecePostD 10 s w) := by
  have hsz : (s.size : Int) ≤ 3000 := by omega
  go_enter Tryd.func36, Tryd.ntmps36
  go_wp2_with fail
  go_loopw [3, 4] (fun v i wr => PieceRelD 10 s w wr v i) (fun _ i _ => s.size - (intOf i).toNat)
  case atStart =>
    refine ⟨0, 1, _, rfl, Nat.zero_le _, rfl, rfl, ?_, (Below.refl _ _).alloc (Nat.le_refl _) _⟩
    exact World.ownsRow_lit w #[.string ⟨#[]⟩] 1 (Nat.le_refl _) (by decide) rfl
  case round =>
    obtain ⟨k, n, v, rfl, hk, rfl, hn, hown, hb⟩ := hrel
    by_cases hlt : k < s.size
    · have hlt' : (k : Int) < s.size := by omega
      obtain ⟨c, hc⟩ : ∃ c, s.data.toList[k]? = some c := ⟨_, List.getElem?_eq_getElem (by simpa using hlt)⟩
      have hix := bidx s k c hc
      have hts := take_snoc s.data.toList k c hc
      have hex := ext_one s k c hc
      have hnl : n ≤ k + 1 := by
        rw [hn]; exact Nat.le_trans (pcd_len_le' _) (by have := List.length_take_le k s.data.toList; omega)
      have hn1 : 1 ≤ n := by rw [hn]; exact List.length_pos_iff.2 (pcd_ne _)
      have HT := Lib.hid hts; clear hts
      have HX := Lib.hid hex; clear hex
      have HC := Lib.hid hc; clear hc
      by_cases h58 : c = 10
      · subst h58
        have HN := Lib.hid hn; clear hn
        have HK := Lib.hid hk; clear hk
        have hu : Tryd.prog.underlying 69 = some (.slice 9) := Tryd.underlying69
        go_wp2_with (at_builtin
                     refine app1 rfl _ _ 69 9 rfl (.string ByteArray.empty) 16 w.heap.size n Tryd.underlying69 st_info rfl v _ rfl hown rfl rfl (by omega) (by omega) hb.size ?_)
        intro v' w' ho' hg' hb'
        go_wp2
        go_roundw
        case rel =>
          refine ⟨k + 1, n + 1, _, rfl, by omega, by go_num, ?_, ?_, hb.trans hb'⟩
          · rw [HT.out, pcd_snoc_colon, List.length_append, ← HN.out]; rfl
          · rw [HT.out, pcd_snoc_colon, List.map_append]; exact ho'
        case measure => simp [intOf]; omega
      · have hne : ((c.toNat : Int) == 10) = false := by
          apply beq_false_of_ne
          intro e
          apply h58
          apply UInt8.toNat_inj.1
          have : c.toNat = 10 := by omega
          rw [this]; rfl
        obtain ⟨q, p, hq1, hq2⟩ := pcd_snoc_other c h58 (s.data.toList.take k)
        have hpk : p.length ≤ k := Nat.le_trans (pcd_len_le (s.data.toList.take k) p (by rw [hq1]; simp)) (List.length_take_le _ _)
        rw [hq1] at hown hn
        have hnq : n = q.length + 1 := by rw [hn]; simp
        subst hnq
        obtain ⟨g, cap, rfl⟩ : ∃ g cap, v = .slice (some ⟨g, 0, none⟩) (q.length + 1) cap := by
          rcases hown.2 with ⟨_, h0⟩ | ⟨g, cap, cur, hv, _⟩
          · omega
          · exact ⟨g, cap, hv⟩
        have hcell := hown.cellAt q.length (by omega)
        rw [List.map_append, List.getElem?_append_right (by simp)] at hcell
        simp only [List.length_map, Nat.sub_self, List.map_cons, List.map_nil, List.getElem?_cons_zero, strV] at hcell
        have hfr := hown.frozenAt q.length
        have hst := hown.stored q.length (strV (p ++ [c]))
        have hlt2 := hown.lt g rfl
        have HS := Lib.hid hst; clear hst
        have HQ1 := Lib.hid hq1
        have HQ2 := Lib.hid hq2
        clear hq1 hq2 h58 hn hown
        have hno : ¬ (9223372036854775807 < (str p).size + (s.extract k (k + 1)).size) := by rw [HX.out, size_str, size_str]; simp only [List.length_singleton]; omega
        have hi1 : (↑(q.length + 1) : Int) - 1 = (q.length : Int) := by omega
        have j1 : (0 : Int) ≤ k := by omega
        have j2 : (k : Int) ≤ k + 1 := by omega
        have j3 : (k : Int) + 1 ≤ s.size := by omega
        have j4 : (0 : Int) ≤ (k : Int) + 1 := by omega
        go_wp2_with fail
        go_region
        go_wp2
        go_roundw
        case rel =>
          refine ⟨k + 1, q.length + 1, _, rfl, by omega, by go_num, ?_, ?_, (hb.setCell (p := ⟨g, q.length, none⟩) hlt2.1 _).drew⟩
          · rw [HT.out, HQ2.out]; simp
          · rw [HX.out, app_str, HT.out, HQ2.out]
            have h0 := HS.out.1
            have he : ((q ++ [p]).map strV).set q.length (strV (p ++ [c])) = (q ++ [p ++ [c]]).map strV := by simp [List.set_append]
            rw [he] at h0
            exact h0.drew
        case measure => simp [intOf]; omega
    · have hk' : k = s.size := by omega
      subst hk'
      have ht : s.data.toList.take s.size = s.data.toList := List.take_of_length_le (by simp)
      rw [ht] at hown hn
      have HO := Lib.hid hown
      have HN := Lib.hid hn
      clear hown hn
      go_wp2
      go_ret
      exact ⟨_, rfl, SlOf.of_own (f := strV) (by rw [← HN.out]; exact HO.out), hb⟩
set_option maxHeartbeats 2000000 in
theorem Words_any (s : ByteArray) (hs : s.size ≤ 3000) (w : World) :
    Calls Tryd.prog 54 #[.string s] w (PiecePostD 32 s w) := by
  have hsz : (s.size : Int) ≤ 3000 := by omega
  go_enter Tryd.func54, Tryd.ntmps54
  go_wp2_with fail
  go_loopw [3, 4] (fun v i wr => PieceRelD 32 s w wr v i) (fun _ i _ => s.size - (intOf i).toNat)
  case atStart =>
    refine ⟨0, 1, _, rfl, Nat.zero_le _, rfl, rfl, ?_, (Below.refl _ _).alloc (Nat.le_refl _) _⟩
    exact World.ownsRow_lit w #[.string ⟨#[]⟩] 1 (Nat.le_refl _) (by decide) rfl
  case round =>
    obtain ⟨k, n, v, rfl, hk, rfl, hn, hown, hb⟩ := hrel
    by_cases hlt : k < s.size
    · have hlt' : (k : Int) < s.size := by omega
      obtain ⟨c, hc⟩ : ∃ c, s.data.toList[k]? = some c := ⟨_, List.getElem?_eq_getElem (by simpa using hlt)⟩
      have hix := bidx s k c hc
      have hts := take_snoc s.data.toList k c hc
      have hex := ext_one s k c hc
      have hnl : n ≤ k + 1 := by
        rw [hn]; exact Nat.le_trans (pcd_len_le' _) (by have := List.length_take_le k s.data.toList; omega)
      have hn1 : 1 ≤ n := by rw [hn]; exact List.length_pos_iff.2 (pcd_ne _)
      have HT := Lib.hid hts; clear hts
      have HX := Lib.hid hex; clear hex
      have HC := Lib.hid hc; clear hc
      by_cases h58 : c = 32
      · subst h58
        have HN := Lib.hid hn; clear hn
        have HK := Lib.hid hk; clear hk
        have hu : Tryd.prog.underlying 69 = some (.slice 9) := Tryd.underlying69
        go_wp2_with (at_builtin
                     refine app1 rfl _ _ 69 9 rfl (.string ByteArray.empty) 16 w.heap.size n Tryd.underlying69 st_info rfl v _ rfl hown rfl rfl (by omega) (by omega) hb.size ?_)
        intro v' w' ho' hg' hb'
        go_wp2
        go_roundw
        case rel =>
          refine ⟨k + 1, n + 1, _, rfl, by omega, by go_num, ?_, ?_, hb.trans hb'⟩
          · rw [HT.out, pcd_snoc_colon, List.length_append, ← HN.out]; rfl
          · rw [HT.out, pcd_snoc_colon, List.map_append]; exact ho'
        case measure => simp [intOf]; omega
      · have hne : ((c.toNat : Int) == 32) = false := by
          apply beq_false_of_ne
          intro e
          apply h58
          apply UInt8.toNat_inj.1
          have : c.toNat = 32 := by omega
          rw [this]; rfl
        obtain ⟨q, p, hq1, hq2⟩ := pcd_snoc_other c h58 (s.data.toList.take k)
        have hpk : p.length ≤ k := Nat.le_trans (pcd_len_le (s.data.toList.take k) p (by rw [hq1]; simp)) (List.length_take_le _ _)
        rw [hq1] at hown hn
        have hnq : n = q.length + 1 := by rw [hn]; simp
        subst hnq
        obtain ⟨g, cap, rfl⟩ : ∃ g cap, v = .slice (some ⟨g, 0, none⟩) (q.length + 1) cap := by
          rcases hown.2 with ⟨_, h0⟩ | ⟨g, cap, cur, hv, _⟩
          · omega
          · exact ⟨g, cap, hv⟩
        have hcell := hown.cellAt q.length (by omega)
        rw [List.map_append, List.getElem?_append_right (by simp)] at hcell
        simp only [List.length_map, Nat.sub_self, List.map_cons, List.map_nil, List.getElem?_cons_zero, strV] at hcell
        have hfr := hown.frozenAt q.length
        have hst := hown.stored q.length (strV (p ++ [c]))
        have hlt2 := hown.lt g rfl
        have HS := Lib.hid hst; clear hst
        have HQ1 := Lib.hid hq1
        have HQ2 := Lib.hid hq2
        clear hq1 hq2 h58 hn hown
        have hno : ¬ (9223372036854775807 < (str p).size + (s.extract k (k + 1)).size) := by rw [HX.out, size_str, size_str]; simp only [List.length_singleton]; omega
        have hi1 : (↑(q.length + 1) : Int) - 1 = (q.length : Int) := by omega
        have j1 : (0 : Int) ≤ k := by omega
        have j2 : (k : Int) ≤ k + 1 := by omega
        have j3 : (k : Int) + 1 ≤ s.size := by omega
        have j4 : (0 : Int) ≤ (k : Int) + 1 := by omega
        go_wp2_with fail
        go_region
        go_wp2
        go_roundw
        case rel =>
          refine ⟨k + 1, q.length + 1, _, rfl, by omega, by go_num, ?_, ?_, (hb.setCell (p := ⟨g, q.length, none⟩) hlt2.1 _).drew⟩
          · rw [HT.out, HQ2.out]; simp
          · rw [HX.out, app_str, HT.out, HQ2.out]
            have h0 := HS.out.1
            have he : ((q ++ [p]).map strV).set q.length (strV (p ++ [c])) = (q ++ [p ++ [c]]).map strV := by simp [List.set_append]
            rw [he] at h0
            exact h0.drew
        case measure => simp [intOf]; omega
    · have hk' : k = s.size := by omega
      subst hk'
      have ht : s.data.toList.take s.size = s.data.toList := List.take_of_length_le (by simp)
      rw [ht] at hown hn
      have HO := Lib.hid hown
      have HN := Lib.hid hn
      clear hown hn
      go_wp2
      go_ret
      exact ⟨_, rfl, SlOf.of_own (f := strV) (by rw [← HN.out]; exact HO.out), hb⟩
end Go.Proofs.YtcmojpfolmcaoaaDoor
