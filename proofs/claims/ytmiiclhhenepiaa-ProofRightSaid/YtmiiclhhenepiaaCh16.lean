/-
  Layer 16: proof's Check. Own work.
-/
import Derived.Test.YtmiiclhhenepiaaNc16
namespace Go.Proofs.Ytmiiclhhenepiaa
set_option linter.unusedVariables false
set_option linter.unusedSimpArgs false
open Go.RowKit Go.WideElems Go.MapKept

def endsEmpty (ps : List (List Int)) : Bool := match ps.getLast? with
  | some [] => true
  | _ => false
/-- what Check answers -/
def CheckR (cs ps : List (List Int)) (z : Int) : Prop :=
  (∃ (i : Nat) (c : List Int), ps[i]? = some c ∧ (∀ (j : Nat) d, j < i → ps[j]? = some d → Fol (cs ++ ps.take j) d) ∧ ¬ Fol (cs ++ ps.take i) c ∧ z = (i : Int)) ∨
  ((∀ (j : Nat) d, ps[j]? = some d → Fol (cs ++ ps.take j) d) ∧ z = if endsEmpty ps = true then -1 else (ps.length : Int))
theorem CheckR.uniq {cs ps : List (List Int)} {z z' : Int} (h : CheckR cs ps z) (h' : CheckR cs ps z') : z = z' := by
  rcases h with ⟨i, c, h1, h2, h3, rfl⟩ | ⟨h1, rfl⟩ <;> rcases h' with ⟨i', c', k1, k2, k3, rfl⟩ | ⟨k1, rfl⟩
  · rcases Nat.lt_trichotomy i i' with h | h | h
    · exact absurd (k2 i c h h1) h3
    · rw [h]
    · exact absurd (h2 i' c' h k1) k3
  · exact absurd (k1 i c h1) h3
  · exact absurd (h1 i' c' k1) k3
  · rfl
theorem KI.added {cs : List (List Int)} {B : Nat} {S S' : St} {c : List Int} (h : KI cs B S) (hr : Rest (codes S.vs cs ++ [(nz c).map (cd (vsAll S.vs c))]) S') (hv : S'.vs = vsAll S.vs c) (hl : S'.list.length ≤ S.list.length + 1) (hc : c.length ≤ 20) : KI (cs ++ [c]) (B + 20) S' := by
  obtain ⟨ext, he, hel⟩ := vsAll_pre c S.vs
  have h1 := h.len
  have h2 := h.vlen
  refine ⟨?_, ?_, by simp; omega, by rw [hv, he]; simp; omega⟩
  · rw [hv]
    have e1 : codes (vsAll S.vs c) (cs ++ [c]) = codes S.vs cs ++ [(nz c).map (cd (vsAll S.vs c))] := by
      have e2 : codes (vsAll S.vs c) cs = codes S.vs cs := by rw [he]; exact codes_ext h.mem ext
      rw [← e2]
      unfold codes
      rw [List.map_append]
      rfl
    rw [e1]
    exact hr
  · intro d hd n hn
    rw [hv]
    rcases List.mem_append.1 hd with hd | hd
    · rw [he]; exact List.mem_append_left _ (h.mem d hd n hn)
    · rw [List.mem_singleton.1 hd] at hn
      exact vsAll_mem c S.vs n hn
theorem KI.followed {cs : List (List Int)} {B : Nat} {S S' : St} {c : List Int} (h : KI cs B S) (hr : Rest (codes S.vs cs) S') (hv : S'.vs = S.vs ∨ S'.vs = vsAll S.vs c) (hl : S'.list.length = S.list.length) (hc : c.length ≤ 20) : KI cs (B + 20) S' := by
  have h1 := h.len
  have h2 := h.vlen
  rcases hv with hv | hv
  · exact h.grown [] (by rw [hv]; simp) hr (by omega) (by rw [hv]; omega)
  · obtain ⟨ext, he, hel⟩ := vsAll_pre c S.vs
    exact h.grown ext (by rw [hv, he]) hr (by omega) (by rw [hv, he]; simp; omega)
/-- an element of rows that came in, later -/
theorem Reads2.row {w : World} {a : Option Addr} {n cp j : Nat} {cs : List (List Int)} {c : List Int} (h : Reads2 w (.slice a n cp) cs) (hj : cs[j]? = some c) : ∃ b r, a = some b ∧ w.cell? (b.add j) = some r ∧ ∀ w', Below w.heap.size w w' → w'.cell? (b.add j) = some r ∧ Reads w' iV r c := by
  obtain ⟨a0, c0, e0, _, hcell⟩ := id h
  cases e0
  obtain ⟨b, r, rfl, hr, hrd⟩ := hcell j c hj
  exact ⟨b, r, rfl, hr, fun w' hb => ⟨(World.cell?_of_block (hb.block _ (World.block_lt_of_cell? w _ hr))).trans hr, hrd.below hb (Nat.le_refl _)⟩⟩
def CkP (cs ps : List (List Int)) (w : World) (e : Ending) (w' : World) : Prop := (∃ z, e = .returned (.int .i64 z) ∧ CheckR cs ps z) ∧ Below w.heap.size w w'
structure CL (cs ps : List (List Int)) (w : World) (n0 K0 j : Nat) (wr : World) (M : Mm) (S : St) : Prop where
  ks : KS wr n0 M S noT
  ki : KI (cs ++ ps.take j) (20 * cs.length + 40 * j) S
  b : Below n0 w wr
  K : M.K = K0
  fol : ∀ (i : Nat) d, i < j → ps[i]? = some d → Fol (cs ++ ps.take i) d
set_option maxRecDepth 100000 in
set_option maxHeartbeats 4000000 in
theorem Check_any (vars : Int) (cv pv : Value) (cs ps : List (List Int)) (w : World) (hc : Reads2 w cv cs) (hf : Fit64 cs) (hl1 : cs.length ≤ 100) (hl2 : ∀ c ∈ cs, c.length ≤ 20) (hp : Reads2 w pv ps) (hf2 : Fit64 ps) (hl3 : ps.length ≤ 100) (hl4 : ∀ c ∈ ps, c.length ≤ 20) :
    Calls Try.prog 16 #[.agg #[.int .i64 vars, cv], pv] w (CkP cs ps w) := by
  have HC := Lib.hid hc
  have HP := Lib.hid hp
  obtain ⟨a, cp, rfl, hlen, _⟩ := hc
  obtain ⟨pa, pc, rfl, hplen, _⟩ := hp
  have hlI : (ps.length : Int) ≤ 9223372036854775807 := by omega
  clear hlen hplen
  go_enter Try.func16, Try.ntmps16
  go_upto_region 1 with fail
  have HBA := Lib.hid (show Below w.heap.size w (w.alloc (.cells #[.int .i64 vars, .slice a cs.length cp] 28)) from (Below.refl _ _).alloc (Nat.le_refl _) _)
  have hnew := heap_alloc_new w (.cells #[.int .i64 vars, .slice a cs.length cp] 28)
  generalize w.alloc (.cells #[.int .i64 vars, .slice a cs.length cp] 28) = w1 at HBA hnew ⊢
  generalize w.heap.size = Q0 at hnew ⊢
  have hc1 : w1.cell? ⟨Q0, 1, none⟩ = some (.slice a cs.length cp) := by rw [cell_of_row w1 Q0 1 _ _ (0, 0) hnew]; rfl
  have HN := Lib.hid (new_any _ cs w1 (HC.out.below HBA.out (Nat.le_refl _)) hf (by omega) hl2)
  clear hnew
  go_wp2_with fail
  refine HN.out.mono ?_
  rintro e w2 ⟨M0, S0, rfl, hk0, hki0, hb0⟩
  have HB2 := Lib.hid (HBA.out.trans (⟨hb0.os, hb0.tape, hb0.output, hb0.size, fun k hk => hb0.block k (Nat.lt_of_lt_of_le hk HBA.out.size)⟩ : Below w.heap.size w1 w2))
  have hn01 : w.heap.size ≤ w1.heap.size := HBA.out.size
  obtain ⟨K0, hK0⟩ : ∃ K0, M0.K = K0 := ⟨_, rfl⟩
  rw [hK0]
  have HCL := Lib.hid (show CL cs ps w2 w1.heap.size K0 0 w2 M0 S0 from ⟨hk0, by rw [List.take_zero, List.append_nil]; exact hki0, Below.refl _ _, hK0, fun i d hi => by omega⟩)
  clear hk0 hki0 hb0 hK0 HN
  go_wp2_with fail
  go_loopw [14] (fun iv wr => ∃ (j : Nat) (M : Mm) (S : St), j ≤ ps.length ∧ iv = .int .i64 (j : Int) ∧ CL cs ps w2 w1.heap.size K0 j wr M S) (fun iv _ => ps.length - (intOf iv).toNat)
  case atStart => exact ⟨0, M0, S0, by omega, rfl, HCL.out⟩
  case round =>
    obtain ⟨j, M, S, hj, rfl, hcl⟩ := hrel
    have HL := Lib.hid hcl
    have HBW := Lib.hid (show Below w.heap.size w wr from HB2.out.trans ⟨hcl.b.os, hcl.b.tape, hcl.b.output, hcl.b.size, fun k hk => hcl.b.block k (by omega)⟩)
    clear hcl HCL
    by_cases hlt : j < ps.length
    · obtain ⟨c, hcj⟩ : ∃ c, ps[j]? = some c := ⟨_, List.getElem?_eq_getElem hlt⟩
      obtain ⟨b, r, rfl, hr, hrow⟩ := HP.out.row hcj
      have hr2 := (hrow wr HBW.out).1
      have HROW := Lib.hid (fun w' (hb : Below w1.heap.size wr w') => (hrow w' (HBW.out.trans ⟨hb.os, hb.tape, hb.output, hb.size, fun k hk => hb.block k (by omega)⟩)).2)
      have hjI : (j : Int) < (ps.length : Int) := by omega
      have hc20 := hl4 c (List.mem_of_getElem? hcj)
      have hfc := fun n hn => hf2 c (List.mem_of_getElem? hcj) n hn
      have hvl := HL.out.ki.vlen
      have hln := HL.out.ki.len
      have hlj : (ps.take j).length = j := by rw [List.length_take]; omega
      rw [List.length_append] at hln
      have HFO := Lib.hid (follows_any HL.out.ks HL.out.ki.rest r c HROW.out hfc (by omega) (by omega))
      rw [HL.out.K] at HFO
      have HCJ := Lib.hid hcj
      clear hcj hrow hr
      go_wp2_with fail
      refine HFO.out.mono ?_
      rintro e w3 ⟨b3, M3, S3, rfl, hk3, hb3, hr3, hv3, hl3', hK3, hfo⟩
      have HFL := Lib.hid (hfo.trans (conf_fol HL.out.ki.mem))
      cases b3 with
      | false =>
        have HF := Lib.hid (show CkP cs ps w (.returned (.int .i64 (j : Int))) w3 from ⟨⟨_, rfl, .inl ⟨j, c, HCJ.out, HL.out.fol, (fun h => by have := HFL.out.2 h; cases this), rfl⟩⟩, HBW.out.trans ⟨hb3.os, hb3.tape, hb3.output, hb3.size, fun k hk => hb3.block k (by omega)⟩⟩)
        clear hk3 hb3 hr3 hv3 hl3' hK3 hfo HFL HFO
        go_wp2
        go_ret
        exact HF.out
      | true =>
        have hki3 := HL.out.ki.followed hr3 hv3 hl3' hc20
        have hvl3 := hki3.vlen
        have hln3 := hki3.len
        rw [List.length_append] at hln3
        have HKI3 := Lib.hid hki3
        have HB3 := Lib.hid hb3
        have HADD := Lib.hid (add_any hk3 hki3.rest r c (fun w' hb => HROW.out w' (HB3.out.trans hb)) hfc (by omega) (by omega) ((nz c).map (cd (vsAll S3.vs c))) (fun m => by simp [eq_comm]))
        have hK3' := hK3.trans HL.out.K
        rw [hK3'] at HADD
        clear hk3 hb3 hr3 hv3 hl3' hK3 hfo hki3 HFO
        go_wp2_with fail
        refine HADD.out.mono ?_
        rintro e w4 ⟨rfl, M4, S4, hk4, hb4, hr4, hv4, hl4', hK4⟩
        have HN := Lib.hid (show CL cs ps w2 w1.heap.size K0 (j + 1) w4 M4 S4 from ⟨hk4, by
          have := HKI3.out.added hr4 hv4 hl4' hc20
          rw [List.take_add_one, HCJ.out]
          rw [List.append_assoc] at this
          exact ⟨this.rest, this.mem, this.len, by have := this.vlen; omega⟩, HL.out.b.trans (HB3.out.trans hb4), hK4.trans hK3', fun i d hi hd => by
          by_cases he : i < j
          · exact HL.out.fol i d he hd
          · have : i = j := by omega
            subst this
            rw [HCJ.out] at hd
            cases hd
            exact HFL.out.1 (by trivial)⟩)
        clear hk4 hb4 hr4 hv4 hl4' hK4 HADD
        go_wp2_with fail
        exact ⟨⟨j + 1, M4, S4, by omega, by go_num, HN.out⟩, by simp [intOf]; omega⟩
    · have hle : (ps.length : Int) ≤ (j : Int) := by omega
      have HALL := Lib.hid (show ∀ (i : Nat) d, ps[i]? = some d → Fol (cs ++ ps.take i) d from fun i d hd => HL.out.fol i d (by have := (List.getElem?_eq_some_iff.1 hd).1; omega) hd)
      by_cases h0 : ps.length = 0
      · have hp0 : ps = [] := List.eq_nil_of_length_eq_zero h0
        have HF := Lib.hid (show CkP cs ps w (.returned (.int .i64 (ps.length : Int))) wr from ⟨⟨_, rfl, .inr ⟨HALL.out, by rw [hp0]; rfl⟩⟩, HBW.out⟩)
        have h0I : (ps.length : Int) = 0 := by omega
        clear hp0 h0 HALL hle hj hlt
        rw [h0I] at HF
        go_wp2
        go_ret
        exact HF.out
      · obtain ⟨d, hd⟩ : ∃ d, ps[ps.length - 1]? = some d := ⟨_, List.getElem?_eq_getElem (by omega)⟩
        obtain ⟨b, r, rfl, hr, hrow⟩ := HP.out.row hd
        obtain ⟨hr2, hrd2⟩ := hrow wr HBW.out
        obtain ⟨ra, rc, rfl, hrl, _⟩ := reads_shape hrd2
        obtain ⟨q, hq⟩ : ∃ q, q = ps.length - 1 := ⟨_, rfl⟩
        rw [← hq] at hr2 hd
        have hqI : (ps.length : Int) - 1 = (q : Int) := by omega
        have hw1 : IntKind.i64.wrap ((ps.length : Int) - 1) = (q : Int) := by rw [IntWalk.i64_in _ ⟨by omega, by omega⟩]; exact hqI
        have hqlt : (q : Int) < (ps.length : Int) := by omega
        have hqn : ¬ (q : Int) < 0 := by omega
        have hee : endsEmpty ps = decide (d.length = 0) := by
          unfold endsEmpty
          rw [List.getLast?_eq_getElem?, ← hq, hd]
          cases d <;> simp
        have HFT := Lib.hid (fun (h : d.length = 0) => (show CkP cs ps w (.returned (.int .i64 (-1))) wr from ⟨⟨_, rfl, .inr ⟨HALL.out, by rw [if_pos (by rw [hee]; exact decide_eq_true h)]⟩⟩, HBW.out⟩))
        have HFN := Lib.hid (fun (h : ¬ d.length = 0) => (show CkP cs ps w (.returned (.int .i64 (ps.length : Int))) wr from ⟨⟨_, rfl, .inr ⟨HALL.out, by rw [if_neg (by rw [hee, decide_eq_false h]; simp)]⟩⟩, HBW.out⟩))
        clear hq hee hr hrow hrd2 hd h0 HALL hle
        by_cases hd0 : d.length = 0
        · have HF := Lib.hid (HFT.out hd0)
          have hd0I : ¬ (0 : Int) < (d.length : Int) := by omega
          clear HFT HFN
          go_wp2
          go_ret
          exact HF.out
        · have HF := Lib.hid (HFN.out hd0)
          have hd0I : (0 : Int) < (d.length : Int) := by omega
          clear HFT HFN
          go_wp2
          go_ret
          exact HF.out
end Go.Proofs.Ytmiiclhhenepiaa
