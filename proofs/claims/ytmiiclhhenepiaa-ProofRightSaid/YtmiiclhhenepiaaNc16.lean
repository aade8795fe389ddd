/-
  Layer 16: newChecker, and proof's Follows: whether a clause follows by units. Own work.
-/
import Derived.Test.YtmiiclhhenepiaaFo16
namespace Go.Proofs.Ytmiiclhhenepiaa
set_option linter.unusedVariables false
set_option linter.unusedSimpArgs false
open Go.RowKit Go.WideElems Go.MapKept

/-- clauses by codes -/
def codes (vs : List Nat) (cs : List (List Int)) : List (List Nat) := cs.map fun c => (nz c).map (cd vs)
/-- a checker of these clauses -/
structure KI (cs : List (List Int)) (B : Nat) (S : St) : Prop where
  rest : Rest (codes S.vs cs) S
  mem : ∀ c ∈ cs, ∀ n ∈ nz c, n.natAbs ∈ S.vs
  len : S.list.length ≤ cs.length
  vlen : S.vs.length ≤ B
theorem codes_ext {vs : List Nat} {cs : List (List Int)} (h : ∀ c ∈ cs, ∀ n ∈ nz c, n.natAbs ∈ vs) (ext : List Nat) : codes (vs ++ ext) cs = codes vs cs := by
  unfold codes
  refine List.map_congr_left fun c hc => List.map_congr_left fun n hn => cd_ext (h c hc n hn)
theorem KI.grown {cs : List (List Int)} {B B' : Nat} {S S' : St} (h : KI cs B S) (ext : List Nat) (hv : S'.vs = S.vs ++ ext) (hr : Rest (codes S.vs cs) S') (hl : S'.list.length ≤ cs.length) (hB : S'.vs.length ≤ B') : KI cs B' S' :=
  ⟨by rw [hv, codes_ext h.mem]; exact hr, fun c hc n hn => by rw [hv]; exact List.mem_append_left _ (h.mem c hc n hn), hl, hB⟩
/-- by numbers: does it follow? -/
theorem conf_fol {cs : List (List Int)} {vs : List Nat} {c : List Int} (h : ∀ c ∈ cs, ∀ n ∈ nz c, n.natAbs ∈ vs) : Conf ng (codes vs cs) (FolA vs c) ↔ Fol cs c := by
  obtain ⟨ext, he, _⟩ := vsAll_pre c vs
  have hN : Named (fun n : Int => -n) ng (fun n => n ≠ 0 ∧ n.natAbs ∈ vsAll vs c) (cd (vsAll vs c)) :=
    ⟨fun a b ha hb e => cd_inj ha.2 hb.2 ha.1 hb.1 e, fun a ha => cd_neg ha.1, fun a ha => ⟨by have := ha.1; show -a ≠ 0; omega, by show (-a).natAbs ∈ _; rw [Int.natAbs_neg]; exact ha.2⟩⟩
  have hnz : ∀ {c : List Int} {n : Int}, n ∈ nz c → n ≠ 0 := fun {c n} hn => by rw [nz, List.mem_filter] at hn; simpa using hn.2
  have hL : ∀ d ∈ cs.map nz, ∀ n ∈ d, n ≠ 0 ∧ n.natAbs ∈ vsAll vs c := fun d hd n hn => by
    obtain ⟨y, hy, rfl⟩ := List.mem_map.1 hd
    exact ⟨hnz hn, by rw [he]; exact List.mem_append_left _ (h y hy n hn)⟩
  have hA : ∀ n, Neg c n → n ≠ 0 ∧ n.natAbs ∈ vsAll vs c := fun n hn => by
    obtain ⟨m, hm, rfl⟩ := hn
    have := hnz hm
    exact ⟨by omega, by rw [Int.natAbs_neg]; exact vsAll_mem c vs m hm⟩
  have key := conf_img hN hL hA
  have e1 : (cs.map nz).map (·.map (cd (vsAll vs c))) = codes vs cs := by
    rw [he, ← codes_ext h ext]
    unfold codes
    rw [List.map_map]
    rfl
  have e2 : img (cd (vsAll vs c)) (Neg c) = FolA vs c := by
    funext x
    refine propext ⟨?_, ?_⟩
    · rintro ⟨n, ⟨m, hm, rfl⟩, rfl⟩
      exact ⟨m, hm, cd_neg (hnz hm)⟩
    · rintro ⟨n, hn, rfl⟩
      exact ⟨-n, ⟨n, hn, rfl⟩, (cd_neg (hnz hn)).symm⟩
  rw [e1, e2] at key
  exact key
theorem Reads2.belowN {w w' : World} {v : Value} {cs : List (List Int)} (h : Reads2 w v cs) (hb : Below w.heap.size w w') : Reads2 w' v cs := h.below hb (Nat.le_refl _)
theorem lits_len {cs : List (List Int)} (hl : ∀ c ∈ cs, c.length ≤ 20) {j : Nat} {c : List Int} (h : cs[j]? = some c) : c.length ≤ 20 := hl c (List.mem_of_getElem? h)
/-- nothing yet -/
def S0 : St := ⟨[], [], fun _ => [], [], 0, false, fun _ => false⟩
theorem rest0 : Rest [] S0 := by
  refine ⟨⟨by simp [S0], by simp [S0], by simp [S0], by simp [S0], by simp [S0], by simp [S0], by simp [S0]⟩, fun _ => ⟨rfl, ⟨by simp [S0], by simp [S0], by simp [S0], by simp, by simp [S0], fun _ h => h⟩⟩, fun e => by cases e⟩
def M0 (b : Nat) : Mm := ⟨b + 3, b, b + 1, b + 2, [], .slice none 0 0, .slice none 0 0, fun _ => .slice none 0 0, fun x => if x = b + 3 then .top else if x = b then .num else if x = b + 1 then .tak else if x = b + 2 then .wat else .free⟩
theorem ks0 (w : World) : KS ((((w.alloc (.map #[] 0)).alloc (.map #[] 0)).alloc (.map #[] 0)).alloc (.cells #[.map (some w.heap.size), .map (some (w.heap.size + 1)), .map (some (w.heap.size + 2)), .slice none 0 0, .slice none 0 0, .int .i64 0, .bool false] 52)) w.heap.size (M0 w.heap.size) S0 noT := by
  have s1 : (w.alloc (.map #[] 0)).heap.size = w.heap.size + 1 := by simp
  have s2 : ((w.alloc (.map #[] 0)).alloc (.map #[] 0)).heap.size = w.heap.size + 2 := by simp
  have s3 : (((w.alloc (.map #[] 0)).alloc (.map #[] 0)).alloc (.map #[] 0)).heap.size = w.heap.size + 3 := by simp
  have g : ∀ (w : World) (o : Obj), w.grownBy (w.alloc o) none := fun w o => World.grownBy_alloc w o none
  have a1 := NumM.made w
  have a2 := SetM.made (w.alloc (.map #[] 0)) 0
  have a3 := SliM.made ((w.alloc (.map #[] 0)).alloc (.map #[] 0)) 0
  rw [s1] at a2
  rw [s2] at a3
  refine ⟨fun _ => ?_, fun _ => ?_, fun _ => ?_, fun _ => ?_, fun _ => World.ownsRow_nil _ _ _ _, fun _ => World.ownsRow_nil _ _ _ _, fun n c hc => by simp [S0] at hc, fun x _ => World.ownsRow_nil _ _ _ _, ?_, ?_, ?_, ?_, fun b hb => (by cases hb), fun b hb => (by cases hb), fun n v b hv => by simp [M0] at hv, fun x b hb => (by cases hb), fun b hb => ?_, fun b hb => ?_, by simp; omega, rfl⟩
  · have := heap_alloc_new (((w.alloc (.map #[] 0)).alloc (.map #[] 0)).alloc (.map #[] 0)) (.cells #[.map (some w.heap.size), .map (some (w.heap.size + 1)), .map (some (w.heap.size + 2)), .slice none 0 0, .slice none 0 0, .int .i64 0, .bool false] 52)
    rw [s3] at this
    exact this
  · exact ((a1.kept (g _ _) (by simp)).kept (g _ _) (by simp)).kept (g _ _) (by simp)
  · exact (a2.kept (g _ _) (by simp)).kept (g _ _) (by simp)
  · exact a3.kept (g _ _) (by simp)
  · simp [M0]
  · simp [M0]
  · simp [M0]
  · simp [M0]
  · simp at hb
    simp only [M0]
    rw [if_neg (by omega), if_neg (by omega), if_neg (by omega), if_neg (by omega)]
  · simp only [M0]
    rw [if_neg (by omega), if_neg (by omega), if_neg (by omega), if_neg (by omega)]
def NL (cs : List (List Int)) (w : World) (K0 j : Nat) (wr : World) : Prop :=
  ∃ M S, KS wr w.heap.size M S noT ∧ KI (cs.take j) (20 * j) S ∧ Below w.heap.size w wr ∧ M.K = K0
def NewP (cs : List (List Int)) (w : World) (e : Ending) (w' : World) : Prop :=
  ∃ M S, e = .returned (.pointer (some ⟨M.K, 0, none⟩)) ∧ KS w' w.heap.size M S noT ∧ KI cs (20 * cs.length) S ∧ Below w.heap.size w w'
set_option maxRecDepth 100000 in
set_option maxHeartbeats 4000000 in
theorem new_any (cv : Value) (cs : List (List Int)) (w : World) (hc : Reads2 w cv cs) (hf : Fit64 cs) (hl1 : cs.length ≤ 200) (hl2 : ∀ c ∈ cs, c.length ≤ 20) :
    Calls Try.prog 21 #[cv] w (NewP cs w) := by
  have HC := Lib.hid hc
  obtain ⟨a, cp, rfl, hlen, _⟩ := hc
  have hlI : (cs.length : Int) ≤ 9223372036854775807 := by omega
  have hmm1 : ∀ w : World, (Instr.makeMap 48 none).run Try.prog w = .ok (.map (some w.heap.size)) (w.alloc (.map #[] 0)) := fun w => rfl
  have hmm2 : ∀ w : World, (Instr.makeMap 49 none).run Try.prog w = .ok (.map (some w.heap.size)) (w.alloc (.map #[] 0)) := fun w => rfl
  have hmm3 : ∀ w : World, (Instr.makeMap 50 none).run Try.prog w = .ok (.map (some w.heap.size)) (w.alloc (.map #[] 0)) := fun w => rfl
  have HKS := Lib.hid (ks0 w)
  clear hlen
  go_enter Try.func21, Try.ntmps21
  go_upto_region 2 with fail
  have HKS := Lib.hid (show KS ((((w.alloc (.map #[] 0)).alloc (.map #[] 0)).alloc (.map #[] 0)).alloc (.cells #[.map (some w.heap.size), .map (some (w.heap.size + 1)), .map (some (w.heap.size + 1 + 1)), .slice none 0 0, .slice none 0 0, .int .i64 0, .bool false] 52)) w.heap.size (M0 w.heap.size) S0 noT from ks0 w)
  have HB1 := Lib.hid (show Below w.heap.size w ((((w.alloc (.map #[] 0)).alloc (.map #[] 0)).alloc (.map #[] 0)).alloc (.cells #[.map (some w.heap.size), .map (some (w.heap.size + 1)), .map (some (w.heap.size + 1 + 1)), .slice none 0 0, .slice none 0 0, .int .i64 0, .bool false] 52)) from
    ((((Below.refl _ _).alloc (Nat.le_refl _) _).alloc (by simp) _).alloc (by simp; omega) _).alloc (by simp; omega) _)
  generalize ((((w.alloc (.map #[] 0)).alloc (.map #[] 0)).alloc (.map #[] 0)).alloc (.cells #[.map (some w.heap.size), .map (some (w.heap.size + 1)), .map (some (w.heap.size + 1 + 1)), .slice none 0 0, .slice none 0 0, .int .i64 0, .bool false] 52)) = w1 at HKS HB1 ⊢
  obtain ⟨K0, hK0⟩ : ∃ K0, K0 = w.heap.size + 1 + 1 + 1 := ⟨_, rfl⟩
  have HK0 := Lib.hid (show (M0 w.heap.size).K = K0 from hK0.symm)
  rw [← hK0]
  clear hK0 hmm1 hmm2 hmm3
  have HNW := Lib.hid (show NL cs w K0 0 w1 from ⟨M0 w.heap.size, S0, HKS.out, ⟨by rw [List.take_zero]; exact rest0, by simp, by simp [S0], by simp [S0]⟩, HB1.out, HK0.out⟩)
  clear HKS HB1 HK0
  go_wp2_with fail
  go_loopw [13] (fun iv wr => ∃ j : Nat, j ≤ cs.length ∧ iv = .int .i64 (j : Int) ∧ NL cs w K0 j wr) (fun iv _ => cs.length - (intOf iv).toNat)
  case atStart => exact ⟨0, by omega, rfl, HNW.out⟩
  case round =>
    obtain ⟨j, hj, rfl, M, S, hk, hki, hb, hK⟩ := hrel
    have HKS := Lib.hid hk
    have HKI := Lib.hid hki
    have HBB := Lib.hid hb
    have HKK := Lib.hid hK
    clear hk hki hb HNW
    by_cases hlt : j < cs.length
    · obtain ⟨c, hcj⟩ : ∃ c, cs[j]? = some c := ⟨_, List.getElem?_eq_getElem hlt⟩
      obtain ⟨a0, c0, e0, _, hcell⟩ := HC.out.belowN HBB.out
      cases e0
      obtain ⟨b, r, rfl, hr, hrd⟩ := hcell j c hcj
      have hjI : (j : Int) < (cs.length : Int) := by omega
      have htk : cs.take (j + 1) = cs.take j ++ [c] := by rw [List.take_add_one, hcj]; rfl
      have hc20 := lits_len hl2 hcj
      have hvl := HKI.out.vlen
      have hln := HKI.out.len
      have hlj : (cs.take j).length = j := by rw [List.length_take]; omega
      obtain ⟨ext, he, hel⟩ := vsAll_pre c S.vs
      have hrd2 : ∀ w', Below w.heap.size wr w' → Reads w' iV r c := fun w' hb' => by
        obtain ⟨a1, c1, e1, _, hcell1⟩ := HC.out.belowN (HBB.out.trans hb')
        cases e1
        obtain ⟨b1, r1, e1, hr1, hrd1⟩ := hcell1 j c hcj
        cases e1
        have h1 := World.block_lt_of_cell? wr _ hr
        have h2 : w'.cell? (b.add j) = wr.cell? (b.add j) := by
          obtain ⟨a9, c9, e9, _, hcell9⟩ := HC.out
          cases e9
          obtain ⟨b9, r9, e9, hr9, _⟩ := hcell9 j c hcj
          cases e9
          exact World.cell?_of_block (hb'.block _ (World.block_lt_of_cell? w _ hr9))
        rw [h2, hr] at hr1
        cases hr1
        exact hrd1
      have HADD := Lib.hid (add_any HKS.out HKI.out.rest r c hrd2 (fun n hn => hf c (List.mem_of_getElem? hcj) n hn) (by omega) (by omega) ((nz c).map (cd (vsAll S.vs c))) (fun m => by simp [eq_comm]))
      rw [HKK.out] at HADD
      have HTK := Lib.hid htk
      clear hcell hrd hcj htk hrd2
      go_wp2_with fail
      refine HADD.out.mono ?_
      rintro e w2 ⟨rfl, M2, S2, hk2, hb2, hr2, hv2, hl2, hK2⟩
      have HN := Lib.hid (show NL cs w K0 (j + 1) w2 from ⟨M2, S2, hk2, by
        refine ⟨?_, ?_, by rw [HTK.out]; simp; omega, by rw [hv2, he]; simp; omega⟩
        · rw [HTK.out, hv2]
          have e1 : codes (vsAll S.vs c) (cs.take j ++ [c]) = codes S.vs (cs.take j) ++ [(nz c).map (cd (vsAll S.vs c))] := by
            have e2 : codes (vsAll S.vs c) (cs.take j) = codes S.vs (cs.take j) := by rw [he]; exact codes_ext HKI.out.mem ext
            rw [← e2]
            unfold codes
            rw [List.map_append]
            rfl
          rw [e1]
          exact hr2
        · intro d hd n hn
          rw [HTK.out] at hd
          rw [hv2]
          rcases List.mem_append.1 hd with hd | hd
          · rw [he]; exact List.mem_append_left _ (HKI.out.mem d hd n hn)
          · rw [List.mem_singleton.1 hd] at hn
            exact vsAll_mem c S.vs n hn, HBB.out.trans hb2, hK2.trans HKK.out⟩)
      clear hk2 hb2 hr2 hv2 hl2 hK2 HADD
      go_wp2_with fail
      exact ⟨⟨j + 1, by omega, by go_num, HN.out⟩, by simp [intOf]; omega⟩
    · have hle : (cs.length : Int) ≤ (j : Int) := by omega
      have htk : cs.take j = cs := List.take_of_length_le (by omega)
      have hjc : j = cs.length := by omega
      have HE := Lib.hid (show NewP cs w (.returned (.pointer (some ⟨K0, 0, none⟩))) wr from ⟨M, S, by rw [HKK.out], HKS.out, by have := HKI.out; rw [htk, hjc] at this; exact this, HBB.out⟩)
      clear htk hjc
      go_wp2
      go_ret
      exact HE.out
/-- proof's Follows -/
theorem Follows_any (cv cvv : Value) (cs : List (List Int)) (c : List Int) (w : World) (hc : Reads2 w cv cs) (hf : Fit64 cs) (hl1 : cs.length ≤ 200) (hl2 : ∀ c ∈ cs, c.length ≤ 20) (hcc : Reads w iV cvv c) (hf2 : ∀ n ∈ c, -9223372036854775808 ≤ n ∧ n ≤ 9223372036854775807) (hl3 : c.length ≤ 100) :
    Calls Try.prog 14 #[cv, cvv] w fun e w' => (∃ b, e = .returned (.bool b) ∧ (b = true ↔ Fol cs c)) ∧ Below w.heap.size w w' := by
  have HN := Lib.hid (new_any cv cs w hc hf hl1 hl2)
  have HCC := Lib.hid hcc
  clear hc hcc
  go_enter Try.func14, Try.ntmps14
  go_wp2_with fail
  refine HN.out.mono ?_
  rintro e w1 ⟨M, S, rfl, hk, hki, hb⟩
  have hvl := hki.vlen
  have hln := hki.len
  have HFO := Lib.hid (follows_any hk hki.rest cvv c (fun w' hb' => HCC.out.below (hb.trans hb') (Nat.le_refl _)) hf2 (by omega) (by omega))
  have HB := Lib.hid hb
  have HM := Lib.hid hki.mem
  clear hk hki hb HN
  go_wp2_with fail
  refine HFO.out.mono ?_
  rintro e w2 ⟨b, M2, S2, rfl, _, hb2, _, _, _, _, hfo⟩
  have HE := Lib.hid (show (b = true ↔ Fol cs c) ∧ Below w.heap.size w w2 from ⟨hfo.trans (conf_fol HM.out), HB.out.trans hb2⟩)
  clear hb2 hfo HFO
  go_wp2
  go_ret
  exact ⟨⟨b, rfl, HE.out.1⟩, HE.out.2⟩
end Go.Proofs.Ytmiiclhhenepiaa
