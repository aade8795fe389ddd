/-
  Layer 29: the answer's step. Own work.
-/
import Derived.Test.YtlcbfahaapodmaaDf29
import Derived.Test.YtlcbfahaapodmaaRs29
import Derived.Deep.Cut
import Derived.Deep.CutRange
namespace Go.Proofs.Ytlcbfahaapodmaa
set_option linter.unusedVariables false
set_option linter.unusedSimpArgs false
open Go.RowKit

theorem take_get {c : List Int} {k q : Nat} (h0 : ∀ q, q < k → c.getD q 0 ∉ c.take q) {n : Int} (hn : c[k]? = some n) (h : n ∉ c.take k) (hq : q < k + 1) : c.getD q 0 ∉ c.take q := by
  by_cases hqk : q < k
  · exact h0 q hqk
  · have : q = k := by omega
    subst this
    simpa [List.getD, hn] using h
theorem upto_next {p : Nat → Prop} {k : Nat} (h0 : ∀ q, q < k → p q) (h : p k) : ∀ q, q < k + 1 → p q := fun q hq => by
  by_cases hqk : q < k
  · exact h0 q hqk
  · rw [show q = k by omega]; exact h
theorem reads_tk {w : World} {a : Option Addr} {n c k : Nat} {l : List Int} (h : Reads w iV (.slice a n c) l) (hk : k ≤ l.length) : Reads w iV (.slice a k c) (l.take k) := by
  rcases h with ⟨h, rfl⟩ | ⟨x, cap, h, h1, h2, h3⟩
  · cases h
    have : k = 0 := by simpa using hk
    subst this
    exact .inl ⟨rfl, rfl⟩
  · cases h
    refine .inr ⟨x, c, by rw [List.length_take, Nat.min_eq_left hk], by rw [List.length_take]; omega, h2, fun j y hy => ?_⟩
    have hl := (List.getElem?_eq_some_iff.1 hy).1
    rw [List.length_take] at hl
    rw [List.getElem?_take, if_pos (by omega)] at hy
    exact h3 j y hy
theorem hasL_snoc (C : Cs) (c : List Int) (n : Int) : hasL (C ++ [c]) n = (hasL C n || decide (n ∈ c)) := by
  unfold hasL
  rw [List.any_append]
  simp
theorem upto_nextv {p : Nat → Prop} {v : Nat} (h0 : ∀ u, 1 ≤ u → u < v → p u) (h : p v) : ∀ u, 1 ≤ u → u < v + 1 → p u := fun u h1 h2 => by
  by_cases huv : u < v
  · exact h0 u h1 huv
  · rw [show u = v by omega]; exact h
theorem covers_eq {C : Cs} {i k : Nat} {c d : List Int} (hc : C[i]? = some c) (hd : C[k]? = some d) : covers C i k = ((i != k && (decide (c.length < d.length) || decide (i < k))) && c.all fun n => decide (n ∈ d)) := by
  unfold covers
  rw [getD_of hc, getD_of hd]
theorem one_empty {w : World} {P : Nat → Prop} (hP : ∀ b, P b → b < w.heap.size) : RdK (w.alloc (.cells #[.slice none 0 0] 27)) P (.slice (some ⟨w.heap.size, 0, none⟩) 1 1) [[]] := by
  refine ⟨some ⟨w.heap.size, 0, none⟩, 1, [.slice none 0 0], rfl, by simp, by omega, rfl, fun j u hu => ⟨_, rfl, fun h => ?_, ?_⟩, fun j d hj => ?_⟩
  · have h1 : w.heap.size < w.heap.size := hP _ h
    omega
  · exact cell_one_new w _ _ j u hu
  · match j, hj with
    | 0, hj =>
      cases hj
      exact ⟨_, rfl, Rd1.nil⟩
    | j + 1, hj => simp at hj
theorem push_un6 {w w6 : World} {n0 K : Nat} {cv fv uv : Value} {s : TS} {us : List Int} {ua : Option Addr} {uc g cap : Nat} {n : Int} (h : KR w n0 K cv fv uv s) (hus : us.length = s.sg) (hue : uv = .slice ua us.length uc) (hu : w.ownsRow n0 3 1 uv us.length (us.map iV))
    (ho : w6.ownsRow n0 3 1 (.slice (some ⟨g, 0, none⟩) (us.length + 1) cap) (us.length + 1) (us.map iV ++ [iV n])) (hg : (w.alloc (.cells #[.int .i64 n] 3)).drew.grownBy w6 (Value.slice ua us.length uc).ownBlock)
    (hat : (Value.slice ua us.length uc).ownBlock = some g ∨ g = (w.alloc (.cells #[.int .i64 n] 3)).drew.heap.size) (hlt : g < w6.heap.size) :
    w6.cell? ⟨K, 2, none⟩ = some (.slice ua us.length uc) ∧ w6.frozen? ⟨K, 2, none⟩ = false ∧ KR (w6.setCell ⟨K, 2, none⟩ (.slice (some ⟨g, 0, none⟩) (us.length + 1) cap)) n0 K cv fv (.slice (some ⟨g, 0, none⟩) (us.length + 1) cap) { s with sg := s.sg + 1 } ∧ KeepW (privK K fv uv) w (w6.setCell ⟨K, 2, none⟩ (.slice (some ⟨g, 0, none⟩) (us.length + 1) cap)) := by
  have hz : (w.alloc (.cells #[.int .i64 n] 3)).drew.heap.size = w.heap.size + 1 := by show (w.alloc (.cells #[.int .i64 n] 3)).heap.size = _; simp
  have h0 := grow_ad w (.cells #[.int .i64 n] 3)
  rw [← hue] at hg hat
  have hg2 : w.grownBy w6 uv.ownBlock := ⟨hg.os.trans h0.os, hg.tape.trans h0.tape, hg.output.trans h0.output, Nat.le_trans h0.size hg.size, fun k hk hne => (hg.block k (Nat.lt_of_lt_of_le hk h0.size) hne).trans (h0.block k hk (by simp))⟩
  obtain ⟨y1, y2, y3⟩ := h.pushUn (n := n) hus hu ho hg2 (hat.imp id (fun e => ⟨by omega, hlt⟩))
  rw [hue] at y1
  exact ⟨y1, y2, y3, h.keepUn hg2 _⟩
theorem below_un6 {w w6 : World} {n0 K : Nat} {cv fv uv : Value} {s : TS} {us : List Int} {ua : Option Addr} {uc : Nat} {n : Int} (h : KR w n0 K cv fv uv s) (hue : uv = .slice ua us.length uc) (hu : w.ownsRow n0 3 1 uv us.length (us.map iV)) (hb0 : n0 ≤ w.heap.size)
    (hg : (w.alloc (.cells #[.int .i64 n] 3)).drew.grownBy w6 (Value.slice ua us.length uc).ownBlock) : ∀ u, Below n0 w (w6.setCell ⟨K, 2, none⟩ u) := fun u => by
  have h0 := grow_ad w (.cells #[.int .i64 n] 3)
  rw [← hue] at hg
  exact (((Below.refl n0 w).grown h0 hb0 (fun k h => by cases h)).grown hg (Nat.le_trans hb0 h0.size) (fun k hk => (hu.lt k hk).1)).setCell (p := ⟨K, 2, none⟩) h.base u
theorem np_elem {w : World} {P : Nat → Prop} {v : Value} {cs : List (List Int)} {b b2 : Addr} {len cc m rc i j : Nat} {c : List Int} {n : Int} (h : RdK w P v cs) (hv : v = .slice (some b) len cc) (hc : cs[i]? = some c) (hcell : w.cell? (b.add i) = some (.slice (some b2) m rc)) (hn : c[j]? = some n) : ¬ P b2.block := by
  obtain ⟨a, c', rows, e, _, _, _, k4, k5⟩ := h
  rw [hv] at e
  cases e
  obtain ⟨r, q1, ra, rc', er, _, _, _, q2⟩ := k5 i c hc
  obtain ⟨b', e2, _, q3⟩ := k4 i r q1
  cases e2
  rw [q3, er] at hcell
  obtain ⟨b3, e3, q4, _⟩ := q2 j n hn
  rw [e3] at hcell
  cases hcell
  exact q4
def StepP (n0 K vars : Nat) (s : TS) (w : World) (e : Ending) (w' : World) : Prop :=
  Below n0 w w' ∧ ((rstep vars s = none ∧ e = .returned (.bool false) ∧ w' = w) ∨ ∃ t cv fv uv, rstep vars s = some t ∧ e = .returned (.bool true) ∧ KR w' n0 K cv fv uv t)
section
variable {w : World} {n0 K : Nat} {cv fv uv : Value} {s : TS}
set_option maxRecDepth 100000 in
set_option maxHeartbeats 4000000 in
theorem RStep29 (h : KR w n0 K cv fv uv s) (vars : Nat) (hv : vars ≤ 1000) (hlit : ∀ c ∈ s.C, ∀ n ∈ c, -1000000 ≤ n ∧ n ≤ 1000000) (hl : sizeC s.C ≤ 1000000) (hf : s.fx.length ≤ 1000000) (hsg : s.sg ≤ 1000000) (hen : s.en = false) :
    Calls Try.prog 20 #[.pointer (some ⟨K, 0, none⟩), .int .i64 (vars : Int)] w (StepP n0 K vars s w) := by
  have hb0 : n0 ≤ w.heap.size := Nat.le_trans h.base (Nat.le_of_lt h.lt)
  have HK := Lib.hid h
  have HPR := Lib.hid (show ∀ b, privK K fv uv b → b < w.heap.size from fun b hb => (h.priv b hb).1)
  have hw0 : w.cell? ⟨K, 0, none⟩ = some cv := h.cell 0
  have hf0 := h.froz 0
  have hcl6 : s.C.length ≤ 1000000 := Nat.le_trans (size_len _) hl
  have hclI : (s.C.length : Int) ≤ 1000000 := by omega
  have HL := Lib.hid (show ∀ c ∈ s.C, c.length ≤ 1000000 from fun c hc => by have := size_mem hc; omega)
  have HLI := Lib.hid hlit
  obtain ⟨ca, cc, rows, hcv, hcc1, hcc2, hr3, hr4, hr5⟩ := h.C
  have HAT := Lib.hid (show ∀ (j : Nat) c, s.C[j]? = some c → ∃ b ra rc, ca = some b ∧ w.cell? (b.add j) = some (.slice ra c.length rc) ∧ Reads w iV (.slice ra c.length rc) c ∧ c.length ≤ rc ∧ rc ≤ 9223372036854775807 ∧ c.length ≤ 1000000 from fun j c hj => by
    obtain ⟨r, k1, k2⟩ := hr5 j c hj
    obtain ⟨b, e, _, k3⟩ := hr4 j r k1
    have hrd := k2.reads
    obtain ⟨ra, rc, e2, q1, q2, _⟩ := k2
    rw [e2] at k3 hrd
    exact ⟨b, ra, rc, e, k3, hrd, q1, q2, HL.out c (List.mem_of_getElem? hj)⟩)
  have HV := Lib.hid (show vars ≤ 1000 ∧ sizeC s.C ≤ 1000000 ∧ s.fx.length ≤ 1000000 ∧ s.sg ≤ 1000000 ∧ s.en = false from ⟨hv, hl, hf, hsg, hen⟩)
  have HCV := Lib.hid hcv
  rw [hcv] at hw0
  clear hcv hr3 hr4 hr5 h hlit hl hf hsg hen
  go_enter Try.func20, Try.ntmps20
  go_wp2_with fail
  go_loop [35] (fun q => ∃ i : Nat, i ≤ s.C.length ∧ q = .int .i64 i ∧ ∀ j, j < i → dupC (s.C.getD j []) = none) (fun q => s.C.length - (intOf q).toNat)
  case atStart => exact ⟨0, by omega, rfl, fun j hj => by omega⟩
  case round =>
    obtain ⟨i, hi, rfl, hno⟩ := hrel
    have HNO := Lib.hid hno
    clear hno
    by_cases hlt : i < s.C.length
    · obtain ⟨c, hci⟩ : ∃ c, s.C[i]? = some c := ⟨_, List.getElem?_eq_getElem hlt⟩
      obtain ⟨b, ra, rc, rfl, hrc, hrd, hrc1, hrc2, hcl⟩ := HAT.out i c hci
      have HCI := Lib.hid hci
      have HRD := Lib.hid hrd
      have hiI : (i : Int) < (s.C.length : Int) := by omega
      have hclI2 : (c.length : Int) ≤ 1000000 := by omega
      have hrcI : (c.length : Int) ≤ (rc : Int) := by omega
      have hrcJ : (rc : Int) ≤ 9223372036854775807 := by omega
      clear hci hrd
      go_wp2_with fail
      go_loop [42] (fun q => ∃ k : Nat, k ≤ c.length ∧ q = .int .i64 k ∧ ∀ q, q < k → c.getD q 0 ∉ c.take q) (fun q => c.length - (intOf q).toNat)
      case atStart => exact ⟨0, by omega, rfl, fun j hj => by omega⟩
      case round =>
        obtain ⟨k, hk, rfl, hno2⟩ := hrel
        have HNO2 := Lib.hid hno2
        clear hno2
        by_cases hlt2 : k < c.length
        · obtain ⟨n, hn⟩ : ∃ n, c[k]? = some n := ⟨_, List.getElem?_eq_getElem hlt2⟩
          obtain ⟨_, _, e0, _, hel⟩ := reads_shape HRD.out
          cases e0
          obtain ⟨b2, rfl, hnc⟩ := hel k n hn
          have hnc2 : w.cell? (b2.add k) = some (.int .i64 n) := hnc
          have hkI : (k : Int) < (c.length : Int) := by omega
          have hkc : (k : Int) ≤ (rc : Int) := by omega
          have hkc2 : k ≤ rc := by omega
          have HN := Lib.hid hn
          have HH := Lib.hid (has29_any (.slice (some b2) k rc) (c.take k) n w (reads_tk HRD.out (by omega)))
          clear hel hnc hn
          go_wp2_with fail
          refine HH.out.mono ?_
          rintro e w2 ⟨rfl, hw2⟩
          obtain rfl : w = w2 := hw2.symm
          clear HH
          by_cases hm : n ∈ c.take k
          · rw [decide_eq_true hm]
            have HT := Lib.hid (rs_dup (vars := vars) (dupM_hit HCI.out (dupC_hit hlt2 HN.out hm HNO2.out) HNO.out))
            clear hm
            obtain ⟨_, _, rows, hcv2, _, _, hr3, hr4, hr5⟩ := HK.out.C
            rw [HCV.out] at hcv2
            cases hcv2
            have hrow1 : ∀ u ∈ rows, u.oneCell' = true := fun u hu => by
              obtain ⟨j, hj, rfl⟩ := List.getElem_of_mem hu
              obtain ⟨r, k1, k2⟩ := hr5 j s.C[j] (List.getElem?_eq_getElem (by omega))
              rw [List.getElem?_eq_getElem hj] at k1
              rw [Option.some.inj k1]
              exact k2.one
            have hnews : ∀ (j : Nat) u, rows[j]? = some u → (w.alloc (.cells #[] 27)).cell? (b.add j) = some u := fun j u hu => by
              obtain ⟨b', e, _, k⟩ := hr4 j u hu
              cases e
              exact (World.grownBy_alloc w _ none).cell k (by simp)
            have HNW := Lib.hid hnews
            have HR1 := Lib.hid hrow1
            have HR3 := Lib.hid hr3
            have HR5 := Lib.hid hr5
            have HOL := Lib.hid (World.ownsRow_lit (base := w.heap.size) (e := 27) (size := 1) w #[] 0 (Nat.le_refl _) (by decide) (by simp))
            have hxw : ∀ o, (w.alloc o).cell? ⟨K, 0, none⟩ = some (.slice (some b) s.C.length cc) := fun o => (World.grownBy_alloc w o none).cell hw0 (by simp)
            obtain ⟨ii, hi1, hi2, hi3, hi4⟩ := info_parts row29_info
            clear hr3 hr4 hr5 hrow1 hnews
            go_wp2_with (at_builtin; refine wpList_append_own_at _ rfl _ _ 22 rfl w.heap.size 27 ii _ 1 24 Try.underlying22 hi1 hi2 hi3 hi4 rfl (by omega) _ 0 [] (by rfl) HOL.out b s.C.length cc rows (by rfl) (by have := HR3.out; omega) HNW.out HR1.out (by unfold maxLen; omega) (by omega) (by simp) ?_)
            intro v1 w1 ho1 hg1 _ hat1
            obtain ⟨g, cap, rfl, hgb, hgl⟩ := ho1.form (by omega)
            have HO1 := Lib.hid ho1
            have hgw := copy_grow hg1
            have HGW := Lib.hid hgw
            have hz1 : w.heap.size ≤ w1.heap.size := hgw.size
            obtain ⟨ij, hj1, hj2, hj3, hj4⟩ := info_parts int29_info
            obtain ⟨_, _, e0, _, hel⟩ := reads_shape HRD.out
            cases e0
            have hcell : ∀ wx, w.grownBy wx none → ∀ (j : Nat) x, c[j]? = some x → wx.cell? (b2.add j) = some (iV x) := fun wx hg j x hx => by
              obtain ⟨b', e, k1⟩ := hel j x hx
              cases e
              exact hg.cell k1 (by simp)
            have hbl : ∀ (j : Nat) x, c[j]? = some x → b2.block < w.heap.size := fun j x hx => by
              have := World.block_lt_of_cell? w _ (hcell w (World.grownBy.refl _ _) j x hx)
              rw [addB] at this; exact this
            have hgd := hgw.trans (grow_ad w1 (.cells #[] 3))
            have HN1 := Lib.hid (show ∀ (j : Nat) u, ((c.take k).map iV)[j]? = some u → (w1.alloc (.cells #[] 3)).drew.cell? (b2.add j) = some u from fun j u hu => by
              rw [List.getElem?_map, List.getElem?_take] at hu
              by_cases hjk : j < k
              · rw [if_pos hjk] at hu
                cases hq : c[j]? with
                | none => rw [hq] at hu; cases hu
                | some y => rw [hq] at hu; cases hu; exact hcell _ hgd j y hq
              · rw [if_neg hjk] at hu; cases hu)
            have HN2 := Lib.hid (show ∀ w2, (w1.alloc (.cells #[] 3)).drew.grownBy w2 (some w1.heap.size) → ∀ (j : Nat) u, ((c.drop (k + 1)).map iV)[j]? = some u → w2.cell? ((⟨b2.block, b2.off + (k + 1), none⟩ : Addr).add j) = some u from fun w2 hg j u hu => by
              rw [List.getElem?_map, List.getElem?_drop] at hu
              have e : (⟨b2.block, b2.off + (k + 1), none⟩ : Addr) = b2.add (k + 1) := by unfold Addr.add; simp
              rw [e, add_add29]
              cases hq : c[k + 1 + j]? with
              | none => rw [hq] at hu; cases hu
              | some y =>
                rw [hq] at hu
                cases hu
                exact hg.cell (hcell _ hgd _ y hq) (fun e => by rw [addB] at e; have := hbl _ y hq; have := Option.some.inj e; omega))
            have HOI := Lib.hid (own_liti29 w1)
            have hzz : (w1.alloc (.cells #[] 3)).drew.heap.size = w1.heap.size + 1 := by show (w1.alloc (.cells #[] 3)).heap.size = _; simp
            have HZ := Lib.hid hzz
            have hiR : ∃ r0, rows[i]? = some r0 := ⟨_, List.getElem?_eq_getElem (by have := HR3.out; omega)⟩
            have HIR := Lib.hid hiR
            have hkw1 : IntKind.i64.wrap ((k : Int) + 1) = (k : Int) + 1 := IntWalk.i64_in _ ⟨by omega, by omega⟩
            have hk6 : k + 1 ≤ c.length := by omega
            have hk7 : k + 1 ≤ rc := by omega
            have hk8 : (k : Int) + 1 ≤ (c.length : Int) := by omega
            have hk9 : (0 : Int) ≤ (k : Int) + 1 := by omega
            have hk10 : (k : Int) ≤ (k : Int) + 1 := by omega
            have HCL := Lib.hid (show c.length ≤ 1000000 ∧ k < c.length ∧ i < s.C.length from ⟨hcl, hlt2, hlt⟩)
            clear hel hcell hbl hgd hzz hiR hg1 hat1 ho1 hgw hnc2 hxw
            go_upto_region 9 with fail
            by_cases hcap : rc = k + 1
            · subst hcap
              have HEQ := Lib.hid (show c.length - (k + 1) = 0 ∧ c.drop (k + 1) = [] from ⟨by omega, List.drop_eq_nil_of_le (by omega)⟩)
              go_region_law (first
                | (refine step_append_at rfl (.tmp 60) (.tmp 63) 27 rfl w1.heap.size 3 ij _ 1 8 Try.underlying27 hj1 hj2 hj3 hj4 rfl (by omega) _ 0 [] (by rfl) HOI.out b2 k (k + 1) ((c.take k).map iV) (by rfl) (by rw [List.length_map, List.length_take]; have := HCL.out; omega) HN1.out ones29 (by unfold maxLen; have := HCL.out; omega) (by have := HCL.out; omega) (by rw [HZ.out]; omega) ?_; intro v2 w2 ho2 hg2 hat2)
                | (refine step_append_at rfl (.tmp 64) (.tmp 68) 27 rfl w1.heap.size 3 ij _ 1 8 Try.underlying27 hj1 hj2 hj3 hj4 rfl (by omega) v2 (0 + k) ([] ++ (c.take k).map iV) (by rfl) ho2 b2 0 0 [] (by rfl) rfl (fun j u hu => by simp at hu) (fun u hu => by simp at hu) (by unfold maxLen; have := HCL.out; omega) (by have := HCL.out; omega) (by have h1 := HZ.out; have h2 := hg2.size; omega) ?_; intro v3 w3 ho3 hg3 hat3; obtain ⟨f1, f2⟩ := two_app (c := c) (k := k) HCL.out.2.1 hg2 hat2 (by rw [HEQ.out.1, HEQ.out.2]; exact ho3) hg3; obtain ⟨z1, z2⟩ := dup_fin HPR.out HR3.out HR5.out HGW.out HO1.out f1 f2 HCL.out.2.2; obtain ⟨xa, xn, xc, rfl⟩ := own_shape3 f2; obtain ⟨r0, hr0⟩ := HIR.out; obtain ⟨y1, y2⟩ := row_cell29 (own_kept0 HO1.out f1) hr0; have HZ1 := Lib.hid z1; have HZ2 := Lib.hid z2; clear f1 f2 z1 z2 ho3 hg3 hat3 hr0))
              all_goals
                go_upto_region 10 with fail
                have hHZ := HZ1.out
                have hRK := HZ2.out
                generalize w3.setCell ⟨g, i, none⟩ (.slice xa xn xc) = w4 at hHZ hRK ⊢
                have hk4 := HK.out.grow hHZ
                have hst := hk4.setC hRK
                have p0 := hk4.cell 0
                have p1 := hk4.froz 0
                rw [HCV.out] at p0
                have p0 : w4.cell? ⟨K, 0, none⟩ = some (.slice (some b) s.C.length cc) := p0
                have HS := Lib.hid hst.1
                have HBE := Lib.hid ((((Below.refl n0 w).grown hHZ hb0 (fun k h => by cases h)).setCell (p := ⟨K, 0, none⟩) HK.out.base) (.slice (some ⟨g, 0, none⟩) s.C.length cap))
                have HT2 := Lib.hid (show rstep vars s = some { s with C := s.C.set i (c.eraseIdx k) } from by rw [HT.out, getD_of HCI.out])
                clear hk4 hst hHZ hRK HZ1 HZ2 y1 y2
                go_wp2
                go_ret
                exact ⟨HBE.out, .inr ⟨_, _, _, _, HT2.out, rfl, HS.out⟩⟩
            · have hcapb : (rc == k + 1) = false := by simpa using hcap
              go_region_law (first
                | (refine step_append_at rfl (.tmp 60) (.tmp 63) 27 rfl w1.heap.size 3 ij _ 1 8 Try.underlying27 hj1 hj2 hj3 hj4 rfl (by omega) _ 0 [] (by rfl) HOI.out b2 k rc ((c.take k).map iV) (by rfl) (by rw [List.length_map, List.length_take]; have := HCL.out; omega) HN1.out ones29 (by unfold maxLen; have := HCL.out; omega) (by have := HCL.out; omega) (by rw [HZ.out]; omega) ?_; intro v2 w2 ho2 hg2 hat2)
                | (refine step_append_at rfl (.tmp 64) (.tmp 68) 27 rfl w1.heap.size 3 ij _ 1 8 Try.underlying27 hj1 hj2 hj3 hj4 rfl (by omega) v2 (0 + k) ([] ++ (c.take k).map iV) (by rfl) ho2 ⟨b2.block, b2.off + (k + 1), none⟩ (c.length - (k + 1)) (rc - (k + 1)) ((c.drop (k + 1)).map iV) (by rfl) (by rw [List.length_map, List.length_drop]; have := HCL.out; omega) (HN2.out _ hg2) ones29 (by unfold maxLen; have := HCL.out; omega) (by have := HCL.out; omega) (by have h1 := HZ.out; have h2 := hg2.size; omega) ?_; intro v3 w3 ho3 hg3 hat3; obtain ⟨f1, f2⟩ := two_app HCL.out.2.1 hg2 hat2 ho3 hg3; obtain ⟨z1, z2⟩ := dup_fin HPR.out HR3.out HR5.out HGW.out HO1.out f1 f2 HCL.out.2.2; obtain ⟨xa, xn, xc, rfl⟩ := own_shape3 f2; obtain ⟨r0, hr0⟩ := HIR.out; obtain ⟨y1, y2⟩ := row_cell29 (own_kept0 HO1.out f1) hr0; have HZ1 := Lib.hid z1; have HZ2 := Lib.hid z2; clear f1 f2 z1 z2 ho3 hg3 hat3 hr0))
              all_goals
                go_upto_region 10 with fail
                have hHZ := HZ1.out
                have hRK := HZ2.out
                generalize w3.setCell ⟨g, i, none⟩ (.slice xa xn xc) = w4 at hHZ hRK ⊢
                have hk4 := HK.out.grow hHZ
                have hst := hk4.setC hRK
                have p0 := hk4.cell 0
                have p1 := hk4.froz 0
                rw [HCV.out] at p0
                have p0 : w4.cell? ⟨K, 0, none⟩ = some (.slice (some b) s.C.length cc) := p0
                have HS := Lib.hid hst.1
                have HBE := Lib.hid ((((Below.refl n0 w).grown hHZ hb0 (fun k h => by cases h)).setCell (p := ⟨K, 0, none⟩) HK.out.base) (.slice (some ⟨g, 0, none⟩) s.C.length cap))
                have HT2 := Lib.hid (show rstep vars s = some { s with C := s.C.set i (c.eraseIdx k) } from by rw [HT.out, getD_of HCI.out])
                clear hk4 hst hHZ hRK HZ1 HZ2 y1 y2
                go_wp2
                go_ret
                exact ⟨HBE.out, .inr ⟨_, _, _, _, HT2.out, rfl, HS.out⟩⟩
          · rw [decide_eq_false hm]
            have HQ := Lib.hid (fun q hq => take_get HNO2.out HN.out hm (q := q) hq)
            clear hm
            go_wp2_with fail
            go_round
            case rel => exact ⟨k + 1, by omega, by go_num, HQ.out⟩
            case measure => simp [intOf]; omega
        · have hkI : (c.length : Int) ≤ (k : Int) := by omega
          have HD := Lib.hid (upto_next (p := fun j => dupC (s.C.getD j []) = none) HNO.out (by rw [getD_of HCI.out]; exact dupC_no (fun q hq => HNO2.out q (by omega))))
          go_wp2_with fail
          go_round
          case rel => exact ⟨i + 1, by omega, by go_num, HD.out⟩
          case measure => simp [intOf]; omega
    · have hiI : (s.C.length : Int) ≤ (i : Int) := by omega
      have HM := Lib.hid (dupM_no (C := s.C) (fun j hj => HNO.out j (by omega)))
      clear HNO hlt
      go_wp2_with fail
      go_loop [82] (fun q => ∃ i : Nat, i ≤ s.C.length ∧ q = .int .i64 i ∧ ∀ j, j < i → taut (s.C.getD j []) = false) (fun q => s.C.length - (intOf q).toNat)
      case atStart => exact ⟨0, by omega, rfl, fun j hj => by omega⟩
      case round =>
        obtain ⟨i, hi, rfl, hno⟩ := hrel
        have HNO := Lib.hid hno
        clear hno
        by_cases hlt : i < s.C.length
        · obtain ⟨c, hci⟩ : ∃ c, s.C[i]? = some c := ⟨_, List.getElem?_eq_getElem hlt⟩
          obtain ⟨b, ra, rc, rfl, hrc, hrd, hrc1, hrc2, hcl⟩ := HAT.out i c hci
          have HCI := Lib.hid hci
          have HRD := Lib.hid hrd
          have hiI : (i : Int) < (s.C.length : Int) := by omega
          have hclI2 : (c.length : Int) ≤ 1000000 := by omega
          clear hci hrd
          go_wp2_with fail
          go_loop [89] (fun q => ∃ k : Nat, k ≤ c.length ∧ q = .int .i64 k ∧ ∀ n ∈ c.take k, -n ∉ c) (fun q => c.length - (intOf q).toNat)
          case atStart => exact ⟨0, by omega, rfl, by simp⟩
          case round =>
            obtain ⟨k, hk, rfl, hno2⟩ := hrel
            have HNO2 := Lib.hid hno2
            clear hno2
            by_cases hlt2 : k < c.length
            · obtain ⟨n, hn⟩ : ∃ n, c[k]? = some n := ⟨_, List.getElem?_eq_getElem hlt2⟩
              obtain ⟨_, _, e0, _, hel⟩ := reads_shape HRD.out
              cases e0
              obtain ⟨b2, rfl, hnc⟩ := hel k n hn
              have hnc2 : w.cell? (b2.add k) = some (.int .i64 n) := hnc
              have hkI : (k : Int) < (c.length : Int) := by omega
              have hnl := HLI.out c (List.mem_of_getElem? HCI.out) n (List.mem_of_getElem? hn)
              have hnw : IntKind.i64.wrap (-n) = -n := IntWalk.i64_in _ ⟨by omega, by omega⟩
              have HN := Lib.hid hn
              have HH := Lib.hid (has29_any (.slice (some b2) c.length rc) c (-n) w HRD.out)
              clear hel hnc hn hnl
              go_wp2_with fail
              refine HH.out.mono ?_
              rintro e w2 ⟨rfl, hw2⟩
              obtain rfl : w = w2 := hw2.symm
              clear HH
              by_cases hm : -n ∈ c
              · rw [decide_eq_true hm]
                have HT := Lib.hid (rs_taut (vars := vars) HM.out (tautM_hit HCI.out (taut_of (List.mem_of_getElem? HN.out) hm) HNO.out))
                clear hm
                have HWO := Lib.hid (RWithout29 (w := w) (v := .slice (some b) s.C.length cc) i (by rw [← HCV.out]; exact HK.out.C) hlt hcl6 HPR.out)
                go_wp2_with fail
                refine HWO.out.mono ?_
                rintro e w3 ⟨v', rfl, hg3, hr3⟩
                have hk3 := HK.out.grow hg3
                have hst := hk3.setC hr3
                have y0 := hk3.cell 0
                have y1 := hk3.froz 0
                rw [HCV.out] at y0
                have y0 : w3.cell? ⟨K, 0, none⟩ = some (.slice (some b) s.C.length cc) := y0
                obtain ⟨va, vc, _, hve, _⟩ := hr3
                generalize (s.C.eraseIdx i).length = ve at hve
                subst hve
                have HS := Lib.hid hst.1
                have HBE := Lib.hid ((((Below.refl n0 w).grown hg3 hb0 (fun k h => by cases h)).setCell (p := ⟨K, 0, none⟩) HK.out.base) (.slice va ve vc))
                clear hk3 hst hg3
                go_wp2
                go_ret
                exact ⟨HBE.out, .inr ⟨_, _, _, _, HT.out, rfl, HS.out⟩⟩
              · rw [decide_eq_false hm]
                have HQ := Lib.hid (show ∀ m ∈ c.take (k + 1), -m ∉ c from fun m h => by
                  rw [take_snoc _ k n HN.out] at h
                  rcases List.mem_append.1 h with h | h
                  · exact HNO2.out m h
                  · rw [List.mem_singleton.1 h]; exact hm)
                clear hm
                go_wp2_with fail
                go_round
                case rel => exact ⟨k + 1, by omega, by go_num, HQ.out⟩
                case measure => simp [intOf]; omega
            · have hkI : (c.length : Int) ≤ (k : Int) := by omega
              have HD := Lib.hid (upto_next (p := fun j => taut (s.C.getD j []) = false) HNO.out (by rw [getD_of HCI.out]; exact taut_no (fun n hn => HNO2.out n (by rw [List.take_of_length_le (by omega)]; exact hn))))
              go_wp2_with fail
              go_round
              case rel => exact ⟨i + 1, by omega, by go_num, HD.out⟩
              case measure => simp [intOf]; omega
        · have hiJ : (s.C.length : Int) ≤ (i : Int) := by omega
          have HM2 := Lib.hid (tautM_no (C := s.C) (fun j hj => HNO.out j (by omega)))
          clear HNO hlt
          go_wp2_with fail
          go_loop [113] (fun q => ∃ i : Nat, i ≤ s.C.length ∧ q = .int .i64 i ∧ ∀ j, j < i → (s.C.getD j []).length ≠ 0) (fun q => s.C.length - (intOf q).toNat)
          case atStart => exact ⟨0, by omega, rfl, fun j hj => by omega⟩
          case round =>
            obtain ⟨i, hi, rfl, hno⟩ := hrel
            have HNO := Lib.hid hno
            clear hno
            by_cases hlt : i < s.C.length
            · obtain ⟨c, hci⟩ : ∃ c, s.C[i]? = some c := ⟨_, List.getElem?_eq_getElem hlt⟩
              obtain ⟨b, ra, rc, rfl, hrc, hrd, hrc1, hrc2, hcl⟩ := HAT.out i c hci
              have HCI := Lib.hid hci
              have hiI : (i : Int) < (s.C.length : Int) := by omega
              have hclI2 : (c.length : Int) ≤ 1000000 := by omega
              clear hci hrd
              by_cases h0 : c.length = 0
              · have h0b : ((c.length : Int) == 0) = true := by rw [h0]; rfl
                have HT := Lib.hid (rs_empty (vars := vars) HM.out HM2.out (List.any_eq_true.2 ⟨c, List.mem_of_getElem? HCI.out, by rw [List.eq_nil_of_length_eq_zero h0]; rfl⟩))
                clear h0
                have hga := World.grownBy_alloc w (.cells #[.slice none 0 0] 27) none
                have hk1 := HK.out.grow hga
                have x0 := hk1.cell 0
                have x1 := hk1.froz 0
                rw [HCV.out] at x0
                have x0 : (w.alloc (.cells #[.slice none 0 0] 27)).cell? ⟨K, 0, none⟩ = some (.slice (some b) s.C.length cc) := x0
                have hset := hk1.setC (v := .slice (some ⟨w.heap.size, 0, none⟩) 1 1) (cs := [[]]) (one_empty HPR.out)
                go_upto_region 30 with fail
                have HBE := Lib.hid (((Below.refl n0 w).alloc hb0 (.cells #[.slice none 0 0] 27)).setCell (p := ⟨K, 0, none⟩) HK.out.base (.slice (some ⟨w.heap.size, 0, none⟩) 1 1))
                have HS := Lib.hid hset.1
                clear hga hk1 x0 x1 hset
                generalize (w.alloc (.cells #[.slice none 0 0] 27)).setCell ⟨K, 0, none⟩ (.slice (some ⟨w.heap.size, 0, none⟩) 1 1) = w3 at HBE HS ⊢
                have z0 := HS.out.cell 3
                have z1 := HS.out.froz 3
                have z0 : w3.cell? ⟨K, 3, none⟩ = some (.bool s.en) := z0
                rw [HV.out.2.2.2.2] at z0
                have HS2 := Lib.hid (HS.out.setEnd true).1
                have HBF := Lib.hid (HBE.out.setCell (p := ⟨K, 3, none⟩) HK.out.base (.bool true))
                go_wp2
                go_ret
                exact ⟨HBF.out, .inr ⟨_, _, _, _, HT.out, rfl, HS2.out⟩⟩
              · have h0b : ((c.length : Int) == 0) = false := beq_eq_false_iff_ne.2 (fun e => h0 (by omega))
                have HD := Lib.hid (upto_next (p := fun j => (s.C.getD j []).length ≠ 0) HNO.out (by rw [getD_of HCI.out]; exact h0))
                clear h0
                go_wp2_with fail
                go_round
                case rel => exact ⟨i + 1, by omega, by go_num, HD.out⟩
                case measure => simp [intOf]; omega
            · have hiK : (s.C.length : Int) ≤ (i : Int) := by omega
              have HM3 := Lib.hid (empty_no (C := s.C) (fun j hj => HNO.out j (by omega)))
              clear HNO hlt
              go_wp2_with fail
              go_loop [133] (fun q => ∃ i : Nat, i ≤ s.C.length ∧ q = .int .i64 i ∧ ∀ j, j < i → (s.C.getD j []).length ≠ 1) (fun q => s.C.length - (intOf q).toNat)
              case atStart => exact ⟨0, by omega, rfl, fun j hj => by omega⟩
              case round =>
                obtain ⟨i, hi, rfl, hno⟩ := hrel
                have HNO := Lib.hid hno
                clear hno
                by_cases hlt : i < s.C.length
                · obtain ⟨c, hci⟩ : ∃ c, s.C[i]? = some c := ⟨_, List.getElem?_eq_getElem hlt⟩
                  obtain ⟨b, ra, rc, rfl, hrc, hrd, hrc1, hrc2, hcl⟩ := HAT.out i c hci
                  have HCI := Lib.hid hci
                  have HRD := Lib.hid hrd
                  have hiI : (i : Int) < (s.C.length : Int) := by omega
                  have hclI2 : (c.length : Int) ≤ 1000000 := by omega
                  clear hci hrd
                  by_cases h1 : c.length = 1
                  · obtain ⟨n, rfl⟩ : ∃ n, c = [n] := by
                      match c, h1 with
                      | [n], _ => exact ⟨n, rfl⟩
                    have HT := Lib.hid (rs_unit (vars := vars) HM.out HM2.out HM3.out (unit_hit HCI.out HNO.out))
                    clear h1
                    obtain ⟨us, hus, huo⟩ := HK.out.un
                    have hus6 : us.length ≤ 1000000 := by have := HV.out.2.2.2.1; omega
                    obtain ⟨ua, uc, hue⟩ := own_shape29 huo
                    have hw2c : w.cell? ⟨K, 2, none⟩ = some uv := HK.out.cell 2
                    rw [hue] at hw2c
                    have HUE := Lib.hid hue
                    have HUS := Lib.hid hus
                    have HUO := Lib.hid huo
                    obtain ⟨_, _, e0, _, hel⟩ := reads_shape HRD.out
                    cases e0
                    obtain ⟨b2, rfl, hnc⟩ := hel 0 n rfl
                    have hnc2 : w.cell? (b2.add 0) = some (.int .i64 n) := hnc
                    have hnc3 : w.cell? b2 = some (.int .i64 n) := by simpa [Addr.add] using hnc2
                    have hga := grow_ad w (.cells #[.int .i64 n] 3)
                    have huo2 : w.ownsRow n0 3 1 (.slice ua us.length uc) us.length (us.map iV) := by rw [← hue]; exact huo
                    have HUW := Lib.hid (own_kept0 huo2 hga)
                    have hwa : ∀ o, (w.alloc o).cell? ⟨K, 2, none⟩ = some (.slice ua us.length uc) := fun o => (World.grownBy_alloc w o none).cell hw2c (by simp)
                    have hwb : ∀ o, (w.alloc o).cell? b2 = some (.int .i64 n) := fun o => (World.grownBy_alloc w o none).cell hnc3 (by simp)
                    have HNW := Lib.hid (show ∀ (j : Nat) u, [iV n][j]? = some u → (w.alloc (.cells #[.int .i64 n] 3)).drew.cell? ((⟨w.heap.size, 0, none⟩ : Addr).add j) = some u from fun j u hu => cell_one_new w (iV n) 3 j u hu)
                    have hzz : (w.alloc (.cells #[.int .i64 n] 3)).drew.heap.size = w.heap.size + 1 := by show (w.alloc (.cells #[.int .i64 n] 3)).heap.size = _; simp
                    have HZ := Lib.hid hzz
                    have HNP := Lib.hid (np_elem HK.out.C HCV.out HCI.out hrc (j := 0) rfl)
                    obtain ⟨ii, hi1, hi2, hi3, hi4⟩ := info_parts int29_info
                    clear hel hnc hue huo hus hga huo2 hzz
                    go_upto_region 37 with fail
                    go_region_law (first | fail | (refine step_append_lies _ rfl (.tmp 144) (.tmp 148) 27 rfl n0 3 ii _ 1 8 Try.underlying27 hi1 hi2 hi3 hi4 rfl (by omega) _ us.length (us.map iV) (by rfl) HUW.out ⟨w.heap.size, 0, none⟩ 1 1 [iV n] (by rfl) rfl HNW.out (by simp [Value.oneCell', iV]) (by omega) (by unfold maxLen; omega) (by omega) (by rw [HZ.out]; omega) _ rfl ?_; intro g6 q6 w6 ho6 hg6 hat6 hlt6; obtain ⟨x1, x2, hk6, hkk6⟩ := push_un6 HK.out HUS.out HUE.out HUO.out ho6 hg6 hat6 hlt6; have HK6 := Lib.hid hk6; have HKK6 := Lib.hid hkk6; have HB6 := Lib.hid (below_un6 HK.out HUE.out HUO.out hb0 hg6); clear hk6 hkk6 ho6 hg6 hat6 hlt6))
                    all_goals
                      have HBE := Lib.hid (HB6.out (.slice (some ⟨g6, 0, none⟩) (us.length + 1) q6))
                      clear HB6 HUW HNW HZ hi1 hi2 hi3 hi4 hwa hwb x1 x2
                      generalize w6.setCell ⟨K, 2, none⟩ (.slice (some ⟨g6, 0, none⟩) (us.length + 1) q6) = w7 at HK6 HKK6 HBE ⊢
                      have hn7 : w7.cell? b2 = some (.int .i64 n) := HKK6.out.cell (HNP.out) hnc3
                      have HFI := Lib.hid (RFix29 HK6.out n (HLI.out [n] (List.mem_of_getElem? HCI.out) n (by simp)) HV.out.2.1 HV.out.2.2.1)
                      go_wp2_with fail
                      refine HFI.out.mono ?_
                      rintro e w8 ⟨rfl, hb8, cv8, fv8, hk8⟩
                      have HS := Lib.hid hk8
                      have HBF := Lib.hid (HBE.out.trans hb8)
                      clear hk8 hb8
                      go_wp2
                      go_ret
                      exact ⟨HBF.out, .inr ⟨_, _, _, _, HT.out, rfl, HS.out⟩⟩
                  · have h1b : ((c.length : Int) == 1) = false := beq_eq_false_iff_ne.2 (fun e => h1 (by omega))
                    have HD := Lib.hid (upto_next (p := fun j => (s.C.getD j []).length ≠ 1) HNO.out (by rw [getD_of HCI.out]; exact h1))
                    clear h1
                    go_wp2_with fail
                    go_round
                    case rel => exact ⟨i + 1, by omega, by go_num, HD.out⟩
                    case measure => simp [intOf]; omega
                · have hiL : (s.C.length : Int) ≤ (i : Int) := by omega
                  have HM4 := Lib.hid (unit_no (C := s.C) (fun j hj => HNO.out j (by omega)))
                  clear HNO hlt
                  go_wp2_with fail
                  go_loop [18] (fun q => ∃ v : Nat, 1 ≤ v ∧ v ≤ vars + 1 ∧ q = .int .i64 v ∧ ∀ u : Nat, 1 ≤ u → u < v → hasL s.C (u : Int) = hasL s.C (-(u : Int))) (fun q => vars + 1 - (intOf q).toNat)
                  case atStart => exact ⟨1, by omega, by omega, rfl, fun u h1 h2 => by omega⟩
                  case round =>
                    obtain ⟨v, hv1, hv2, rfl, hno⟩ := hrel
                    have HNO := Lib.hid hno
                    clear hno
                    have hvs := HV.out.1
                    by_cases hlt : v ≤ vars
                    · have hvI : (v : Int) ≤ (vars : Int) := by omega
                      have hvw : IntKind.i64.wrap (-(v : Int)) = -(v : Int) := IntWalk.i64_in _ ⟨by omega, by omega⟩
                      go_wp2_with fail
                      go_loop [19, 20, 168] (fun y z q => ∃ k : Nat, k ≤ s.C.length ∧ q = .int .i64 k ∧ y = .bool (hasL (s.C.take k) (v : Int)) ∧ z = .bool (hasL (s.C.take k) (-(v : Int)))) (fun _ _ q => s.C.length - (intOf q).toNat)
                      case atStart => exact ⟨0, by omega, rfl, rfl, rfl⟩
                      case round =>
                        obtain ⟨k, hk, rfl, rfl, rfl⟩ := hrel
                        by_cases hlt2 : k < s.C.length
                        · obtain ⟨c, hci⟩ : ∃ c, s.C[k]? = some c := ⟨_, List.getElem?_eq_getElem hlt2⟩
                          obtain ⟨b, ra, rc, rfl, hrc, hrd, hrc1, hrc2, hcl⟩ := HAT.out k c hci
                          have hkI : (k : Int) < (s.C.length : Int) := by omega
                          have HY := Lib.hid (has29_any (.slice ra c.length rc) c (v : Int) w hrd)
                          have HZ := Lib.hid (has29_any (.slice ra c.length rc) c (-(v : Int)) w hrd)
                          have HSY := Lib.hid (show hasL (s.C.take (k + 1)) (v : Int) = (hasL (s.C.take k) (v : Int) || decide ((v : Int) ∈ c)) from by rw [take_snoc _ k c hci, hasL_snoc])
                          have HSZ := Lib.hid (show hasL (s.C.take (k + 1)) (-(v : Int)) = (hasL (s.C.take k) (-(v : Int)) || decide (-(v : Int) ∈ c)) from by rw [take_snoc _ k c hci, hasL_snoc])
                          clear hci hrd
                          generalize hasL (s.C.take k) (v : Int) = y at HSY ⊢
                          generalize hasL (s.C.take k) (-(v : Int)) = z at HSZ ⊢
                          generalize decide ((v : Int) ∈ c) = y2 at HSY HY
                          generalize decide (-(v : Int) ∈ c) = z2 at HSZ HZ
                          cases y
                          · cases z
                            · go_wp2_with fail
                              refine HY.out.mono ?_
                              rintro e w2 ⟨rfl, hw2⟩
                              obtain rfl : w = w2 := hw2.symm
                              go_wp2_with fail
                              refine HZ.out.mono ?_
                              rintro e w2 ⟨rfl, hw2⟩
                              obtain rfl : w = w2 := hw2.symm
                              go_wp2_with fail
                              go_round
                              case rel => exact ⟨k + 1, by omega, by go_num, by rw [HSY.out]; rfl, by rw [HSZ.out]; rfl⟩
                              case measure => simp [intOf]; omega
                            · go_wp2_with fail
                              refine HY.out.mono ?_
                              rintro e w2 ⟨rfl, hw2⟩
                              obtain rfl : w = w2 := hw2.symm
                              go_wp2_with fail
                              go_round
                              case rel => exact ⟨k + 1, by omega, by go_num, by rw [HSY.out]; rfl, by rw [HSZ.out]; rfl⟩
                              case measure => simp [intOf]; omega
                          · cases z
                            · go_wp2_with fail
                              refine HZ.out.mono ?_
                              rintro e w2 ⟨rfl, hw2⟩
                              obtain rfl : w = w2 := hw2.symm
                              go_wp2_with fail
                              go_round
                              case rel => exact ⟨k + 1, by omega, by go_num, by rw [HSY.out]; rfl, by rw [HSZ.out]; rfl⟩
                              case measure => simp [intOf]; omega
                            · go_wp2_with fail
                              go_round
                              case rel => exact ⟨k + 1, by omega, by go_num, by rw [HSY.out]; rfl, by rw [HSZ.out]; rfl⟩
                              case measure => simp [intOf]; omega
                        · have hkI : (s.C.length : Int) ≤ (k : Int) := by omega
                          have hall : s.C.take k = s.C := List.take_of_length_le (by omega)
                          rw [hall]
                          clear hall
                          obtain ⟨y, hy⟩ : ∃ y, y = hasL s.C (v : Int) := ⟨_, rfl⟩
                          obtain ⟨z, hz⟩ : ∃ z, z = hasL s.C (-(v : Int)) := ⟨_, rfl⟩
                          have HYE := Lib.hid hy
                          have HZE := Lib.hid hz
                          rw [← hy, ← hz]
                          clear hy hz
                          have HLH := Lib.hid (fun hne => lone_hit (vars := vars) (C := s.C) hv1 hlt hne HNO.out)
                          have hvL : -1000000 ≤ (v : Int) ∧ (v : Int) ≤ 1000000 := by omega
                          have hvM : -1000000 ≤ -(v : Int) ∧ -(v : Int) ≤ 1000000 := by omega
                          cases y
                          · cases z
                            · have HN2 := Lib.hid (upto_nextv (p := fun u : Nat => hasL s.C (u : Int) = hasL s.C (-(u : Int))) HNO.out (HYE.out.symm.trans HZE.out))
                              go_wp2_with fail
                              go_round
                              case rel => exact ⟨v + 1, by omega, by omega, by go_num, HN2.out⟩
                              case measure => simp [intOf]; omega
                            · have HT := Lib.hid (rs_lone (vars := vars) HM.out HM2.out HM3.out HM4.out (n := -(v : Int)) (by rw [HLH.out (by rw [← HYE.out, ← HZE.out]; simp), ← HYE.out]; rfl))
                              have HFI := Lib.hid (RFix29 HK.out (-(v : Int)) (by omega) HV.out.2.1 HV.out.2.2.1)
                              go_wp2_with fail
                              refine HFI.out.mono ?_
                              rintro e w3 ⟨rfl, hb3, cv3, fv3, hk3⟩
                              have HS := Lib.hid hk3
                              have HBE := Lib.hid hb3
                              clear hk3 hb3
                              go_wp2
                              go_ret
                              exact ⟨HBE.out, .inr ⟨_, _, _, _, HT.out, rfl, HS.out⟩⟩
                          · cases z
                            · have HT := Lib.hid (rs_lone (vars := vars) HM.out HM2.out HM3.out HM4.out (n := (v : Int)) (by rw [HLH.out (by rw [← HYE.out, ← HZE.out]; simp), ← HYE.out]; rfl))
                              have HFI := Lib.hid (RFix29 HK.out (v : Int) (by omega) HV.out.2.1 HV.out.2.2.1)
                              go_wp2_with fail
                              refine HFI.out.mono ?_
                              rintro e w3 ⟨rfl, hb3, cv3, fv3, hk3⟩
                              have HS := Lib.hid hk3
                              have HBE := Lib.hid hb3
                              clear hk3 hb3
                              go_wp2
                              go_ret
                              exact ⟨HBE.out, .inr ⟨_, _, _, _, HT.out, rfl, HS.out⟩⟩
                            · have HN2 := Lib.hid (upto_nextv (p := fun u : Nat => hasL s.C (u : Int) = hasL s.C (-(u : Int))) HNO.out (HYE.out.symm.trans HZE.out))
                              go_wp2_with fail
                              go_round
                              case rel => exact ⟨v + 1, by omega, by omega, by go_num, HN2.out⟩
                              case measure => simp [intOf]; omega
                    · have hvI : (vars : Int) < (v : Int) := by omega
                      have HM5 := Lib.hid (lone_no (vars := vars) (C := s.C) (fun u h1 h2 => HNO.out u h1 (by omega)))
                      clear HNO hlt
                      go_wp2_with fail
                      go_loop [208] (fun q => ∃ i : Nat, i ≤ s.C.length ∧ q = .int .i64 i ∧ ∀ i' k', i' < i → k' < s.C.length → covers s.C i' k' = false) (fun q => s.C.length - (intOf q).toNat)
                      case atStart => exact ⟨0, by omega, rfl, fun i' k' h => by omega⟩
                      case round =>
                        obtain ⟨i, hi, rfl, hno⟩ := hrel
                        have HNO := Lib.hid hno
                        clear hno
                        by_cases hlt : i < s.C.length
                        · obtain ⟨c, hci⟩ : ∃ c, s.C[i]? = some c := ⟨_, List.getElem?_eq_getElem hlt⟩
                          obtain ⟨b, ra, rc, rfl, hrc, hrd, _, _, hcl⟩ := HAT.out i c hci
                          have HCI := Lib.hid hci
                          have HRD := Lib.hid hrd
                          have hiI : (i : Int) < (s.C.length : Int) := by omega
                          have hclI2 : (c.length : Int) ≤ 1000000 := by omega
                          clear hci hrd
                          go_wp2_with fail
                          go_loop [218] (fun q => ∃ k : Nat, k ≤ s.C.length ∧ q = .int .i64 k ∧ ∀ k', k' < k → covers s.C i k' = false) (fun q => s.C.length - (intOf q).toNat)
                          case atStart => exact ⟨0, by omega, rfl, fun k' h => by omega⟩
                          case round =>
                            obtain ⟨k, hk, rfl, hno2⟩ := hrel
                            have HNO2 := Lib.hid hno2
                            clear hno2
                            by_cases hlt2 : k < s.C.length
                            · obtain ⟨d, hdk⟩ : ∃ d, s.C[k]? = some d := ⟨_, List.getElem?_eq_getElem hlt2⟩
                              obtain ⟨_, ya, yc, e0, hyc, hyd, _, _, hdl⟩ := HAT.out k d hdk
                              cases e0
                              have HDK := Lib.hid hdk
                              have HYD := Lib.hid hyd
                              have hkI : (k : Int) < (s.C.length : Int) := by omega
                              have hdlI2 : (d.length : Int) ≤ 1000000 := by omega
                              have HCO := Lib.hid (covers_eq HCI.out hdk)
                              clear hdk hyd
                              obtain ⟨B, hB⟩ : ∃ B, B = (i != k && (decide (c.length < d.length) || decide (i < k))) := ⟨_, rfl⟩
                              have HB := Lib.hid hB
                              clear hB
                              go_upto_region 63 with fail
                              go_cut [27] from 223 to 238 (fun p wx => p = .bool B ∧ wx = w)
                              case first =>
                                clear HCO HYD HRD HNO2 HNO HDK HCI
                                by_cases hik : i = k
                                · subst hik
                                  have e1 : ((i : Int) != (i : Int)) = false := by simp
                                  have hb : B = false := by rw [HB.out]; simp
                                  subst hb
                                  go_wp2_with fail
                                  go_meet
                                  exact ⟨rfl, rfl⟩
                                · have e0 : ((i : Int) == (k : Int)) = false := beq_eq_false_iff_ne.2 (fun e => hik (by omega))
                                  have e1 : ((i : Int) != (k : Int)) = true := by simp [bne, e0]
                                  have e1b : ¬ (i : Int) = (k : Int) := fun e => hik (by omega)
                                  by_cases hcd : c.length < d.length
                                  · have e2 : decide ((c.length : Int) < (d.length : Int)) = true := decide_eq_true (by omega)
                                    have e3 : (c.length : Int) < (d.length : Int) := by omega
                                    have hb : B = true := by rw [HB.out]; simp [hik, hcd]
                                    subst hb
                                    clear hik
                                    go_wp2_with fail
                                    go_meet
                                    exact ⟨rfl, rfl⟩
                                  · have e2 : decide ((c.length : Int) < (d.length : Int)) = false := decide_eq_false (by omega)
                                    have e3 : ¬ (c.length : Int) < (d.length : Int) := by omega
                                    by_cases hik2 : i < k
                                    · have e4 : decide ((i : Int) < (k : Int)) = true := decide_eq_true (by omega)
                                      have e5 : (i : Int) < (k : Int) := by omega
                                      have hb : B = true := by rw [HB.out]; simp [hik, hik2]
                                      subst hb
                                      clear hik
                                      go_wp2_with fail
                                      go_meet
                                      exact ⟨rfl, rfl⟩
                                    · have e4 : decide ((i : Int) < (k : Int)) = false := decide_eq_false (by omega)
                                      have e5 : ¬ (i : Int) < (k : Int) := by omega
                                      have hb : B = false := by rw [HB.out]; simp [hcd, hik2]
                                      subst hb
                                      clear hik
                                      go_wp2_with fail
                                      go_meet
                                      exact ⟨rfl, rfl⟩
                              case rest =>
                                obtain ⟨rfl, hx⟩ := hcut
                                obtain rfl : w = _ := hx.symm
                                go_wp2_with fail
                                go_loop [27, 240] (fun p q => ∃ j : Nat, j ≤ c.length ∧ q = .int .i64 j ∧ p = .bool (B && (c.take j).all fun n => decide (n ∈ d))) (fun _ q => c.length - (intOf q).toNat)
                                case atStart => exact ⟨0, by omega, rfl, by simp⟩
                                case round =>
                                  obtain ⟨j, hj, rfl, rfl⟩ := hrel
                                  by_cases hlt3 : j < c.length
                                  · obtain ⟨n, hn⟩ : ∃ n, c[j]? = some n := ⟨_, List.getElem?_eq_getElem hlt3⟩
                                    obtain ⟨_, _, e0, _, hel⟩ := reads_shape HRD.out
                                    cases e0
                                    obtain ⟨b2, rfl, hnc⟩ := hel j n hn
                                    have hnc2 : w.cell? (b2.add j) = some (.int .i64 n) := hnc
                                    have hjI : (j : Int) < (c.length : Int) := by omega
                                    have HH := Lib.hid (has29_any (.slice ya d.length yc) d n w HYD.out)
                                    have HSN := Lib.hid (show (B && (c.take (j + 1)).all fun n => decide (n ∈ d)) = ((B && (c.take j).all fun n => decide (n ∈ d)) && decide (n ∈ d)) from by
                                      rw [take_snoc _ j n hn, List.all_append]
                                      simp [Bool.and_assoc])
                                    clear hel hnc hn
                                    generalize (B && (c.take j).all fun n => decide (n ∈ d)) = y at HSN ⊢
                                    generalize decide (n ∈ d) = y2 at HSN HH
                                    cases y
                                    · go_wp2_with fail
                                      go_round
                                      case rel => exact ⟨j + 1, by omega, by go_num, by rw [HSN.out]; rfl⟩
                                      case measure => simp [intOf]; omega
                                    · go_wp2_with fail
                                      refine HH.out.mono ?_
                                      rintro e w2 ⟨rfl, hw2⟩
                                      obtain rfl : w = w2 := hw2.symm
                                      go_wp2_with fail
                                      go_round
                                      case rel => exact ⟨j + 1, by omega, by go_num, by rw [HSN.out]; rfl⟩
                                      case measure => simp [intOf]; omega
                                  · have hjI : (c.length : Int) ≤ (j : Int) := by omega
                                    have hfin : (B && (c.take j).all fun n => decide (n ∈ d)) = covers s.C i k := by
                                      rw [List.take_of_length_le (by omega), HCO.out, HB.out]
                                    rw [hfin]
                                    clear hfin
                                    cases hcv : covers s.C i k with
                                    | true =>
                                      have HT := Lib.hid ((rs_cov (vars := vars) HM.out HM2.out HM3.out HM4.out HM5.out).trans (by rw [cov_hit hlt hlt2 hcv HNO.out HNO2.out]))
                                      clear hcv
                                      have HWO := Lib.hid (RWithout29 (w := w) (v := .slice (some b) s.C.length cc) k (by rw [← HCV.out]; exact HK.out.C) hlt2 hcl6 HPR.out)
                                      go_wp2_with fail
                                      refine HWO.out.mono ?_
                                      rintro e w3 ⟨v', rfl, hg3, hr3⟩
                                      have hk3 := HK.out.grow hg3
                                      have hst := hk3.setC hr3
                                      have y0 := hk3.cell 0
                                      have y1 := hk3.froz 0
                                      rw [HCV.out] at y0
                                      have y0 : w3.cell? ⟨K, 0, none⟩ = some (.slice (some b) s.C.length cc) := y0
                                      obtain ⟨va, vc, _, hve, _⟩ := hr3
                                      generalize (s.C.eraseIdx k).length = ve at hve
                                      subst hve
                                      have HS := Lib.hid hst.1
                                      have HBE := Lib.hid ((((Below.refl n0 w).grown hg3 hb0 (fun k h => by cases h)).setCell (p := ⟨K, 0, none⟩) HK.out.base) (.slice va ve vc))
                                      clear hk3 hst hg3
                                      go_wp2
                                      go_ret
                                      exact ⟨HBE.out, .inr ⟨_, _, _, _, HT.out, rfl, HS.out⟩⟩
                                    | false =>
                                      have HN2 := Lib.hid (upto_next (p := fun k' => covers s.C i k' = false) HNO2.out hcv)
                                      clear hcv
                                      go_wp2_with fail
                                      go_round
                                      case rel => exact ⟨k + 1, by omega, by go_num, HN2.out⟩
                                      case measure => simp [intOf]; omega
                            · have hkI : (s.C.length : Int) ≤ (k : Int) := by omega
                              have HN2 := Lib.hid (show ∀ i' k', i' < i + 1 → k' < s.C.length → covers s.C i' k' = false from fun i' k' h1 h2 => by
                                by_cases h3 : i' < i
                                · exact HNO.out i' k' h3 h2
                                · rw [show i' = i by omega]; exact HNO2.out k' (by omega))
                              go_wp2_with fail
                              go_round
                              case rel => exact ⟨i + 1, by omega, by go_num, HN2.out⟩
                              case measure => simp [intOf]; omega
                        · have hiM : (s.C.length : Int) ≤ (i : Int) := by omega
                          have HT := Lib.hid ((rs_cov (vars := vars) HM.out HM2.out HM3.out HM4.out HM5.out).trans (by rw [cov_no (C := s.C) (fun i' k' h1 h2 => HNO.out i' k' (by omega) h2)]))
                          clear HNO hlt
                          go_wp2
                          go_ret
                          exact ⟨Below.refl _ _, .inl ⟨HT.out, rfl, rfl⟩⟩
end
end Go.Proofs.Ytlcbfahaapodmaa
