/-
  Layer 17: what slices.Contains and slices.ContainsFunc answer, over the closures of cnf.Right. Own work.
-/
import Derived.Test.YtgfgajekegfdgaaMeet17
namespace Go.Proofs.Ytgfgajekegfdgaa
set_option linter.unusedVariables false
set_option linter.unusedSimpArgs false
open Go.RowKit

def IdxP (b : Bool) (w : World) (e : Ending) (w' : World) : Prop := ∃ r : Int, e = .returned (.int .i64 r) ∧ -1 ≤ r ∧ decide (0 ≤ r) = b ∧ Below w.heap.size w w'
def BoolP (b : Bool) (w : World) (e : Ending) (w' : World) : Prop := e = .returned (.bool b) ∧ Below w.heap.size w w'
theorem any_yes {α : Type} {l : List α} {k : Nat} {x : α} (h : l[k]? = some x) {f : α → Bool} (hf : f x = true) : l.any f = true := List.any_eq_true.2 ⟨x, List.mem_of_getElem? h, hf⟩
theorem any_snoc {α : Type} {l : List α} {k : Nat} {x : α} (h : l[k]? = some x) (f : α → Bool) : (l.take (k + 1)).any f = ((l.take k).any f || f x) := by
  rw [List.take_add_one, h]; simp [List.any_append]
set_option maxHeartbeats 2000000 in
theorem Index_any (n : Int) (lv : Value) (l : List Int) (w : World) (hr : Reads w iV lv l) :
    Calls Try.prog 35 #[lv, .int .i64 n] w (IdxP (l.any (fun x => x == n)) w) := by
  obtain ⟨a, c, rfl⟩ := hr.shape
  have hl := hr.len
  have hlI : (l.length : Int) ≤ 9223372036854775807 := by omega
  have HR := Lib.hid hr
  clear hr
  go_enter Try.func35, Try.ntmps35
  go_wp2_with fail
  go_loop [8] (fun i => ∃ k : Nat, k ≤ l.length ∧ i = .int .i64 k ∧ (l.take k).any (fun x => x == n) = false) (fun i => l.length - (intOf i).toNat)
  case atStart => exact ⟨0, by omega, rfl, rfl⟩
  case round =>
    obtain ⟨k, hk, rfl, hno⟩ := hrel
    have HNO := Lib.hid hno
    clear hno
    by_cases hlt : k < l.length
    · obtain ⟨x, hx⟩ : ∃ x, l[k]? = some x := ⟨_, List.getElem?_eq_getElem hlt⟩
      obtain ⟨b, rfl, hc⟩ := Reads.elem HR.out hx
      unfold iV at hc
      have HSN := Lib.hid (any_snoc hx (fun x => x == n))
      have HX := Lib.hid hx
      clear hx
      by_cases e : n = x
      · have hbeq : (n == x) = true := by simp [e]
        have HAN := Lib.hid (any_yes (f := fun x => x == n) HX.out (by simp [e]))
        clear e
        go_wp2
        go_ret
        exact ⟨_, rfl, by omega, by rw [HAN.out]; simp, Below.refl _ _⟩
      · have hbeq : (n == x) = false := by simp [e]
        have HE := Lib.hid (show (x == n) = false from by simpa using (fun h : x = n => e h.symm))
        clear e
        go_wp2
        exact ⟨⟨k + 1, by omega, by go_num, by rw [HSN.out, HNO.out, HE.out]; rfl⟩, by simp [intOf]; omega⟩
    · have hle : (l.length : Int) ≤ k := by omega
      have HALL := Lib.hid (show l.any (fun x => x == n) = false from by have h := HNO.out; rw [List.take_of_length_le (by omega)] at h; exact h)
      go_wp2
      go_ret
      exact ⟨_, rfl, by omega, by rw [HALL.out]; rfl, Below.refl _ _⟩
set_option maxHeartbeats 1000000 in
theorem Contains_any (n : Int) (lv : Value) (l : List Int) (w : World) (hr : Reads w iV lv l) :
    Calls Try.prog 28 #[lv, .int .i64 n] w (BoolP (l.any (fun x => x == n)) w) := by
  have hcall := Index_any n lv l w hr
  generalize hb : l.any (fun x => x == n) = b at hcall
  have HC := Lib.hid hcall
  obtain ⟨a, c, rfl⟩ := hr.shape
  clear hcall hr hb
  go_enter Try.func28, Try.ntmps28
  go_wp2_with fail
  refine HC.out.mono ?_
  rintro e w2 ⟨r, rfl, hr1, hrb, hb⟩
  have HB := Lib.hid hb
  have HRB := Lib.hid hrb
  clear hrb hb
  go_wp2
  go_ret
  exact ⟨ret_bool HRB.out, HB.out⟩
set_option maxHeartbeats 2000000 in
theorem IdxIs (V : Nat) (lv : Value) (l : List (Int)) (f : (Int) → Bool) (w : World) (hr : (fun w v l => Reads w iV v l) w lv l)
    (hf : ∀ n ∈ l, ∀ w', Below w.heap.size w w' → Calls Try.prog 31 #[.int .i64 n, .pointer (some ⟨V, 0, none⟩)] w' (BoolP (f n) w')) :
    Calls Try.prog 36 #[lv, .func (.func 31) #[] #[.pointer (some ⟨V, 0, none⟩)]] w (IdxP (l.any f) w) := by
  obtain ⟨a, c, rfl⟩ := Reads.shape hr
  have hl := Reads.len hr
  have hlI : (l.length : Int) ≤ 9223372036854775807 := by omega
  have HR := Lib.hid hr
  have HF := Lib.hid hf
  clear hr hf
  go_enter Try.func36, Try.ntmps36
  go_wp2_with fail
  go_loopw [8] (fun i wr => ∃ k : Nat, k ≤ l.length ∧ i = .int .i64 k ∧ (l.take k).any f = false ∧ Below w.heap.size w wr) (fun i _ => l.length - (intOf i).toNat)
  case atStart => exact ⟨0, by omega, rfl, rfl, Below.refl _ _⟩
  case round =>
    obtain ⟨k, hk, rfl, hno, hb⟩ := hrel
    have HNO := Lib.hid hno
    have HB := Lib.hid hb
    clear hno
    by_cases hlt : k < l.length
    · obtain ⟨x, hx⟩ : ∃ x, l[k]? = some x := ⟨_, List.getElem?_eq_getElem hlt⟩
      obtain ⟨b, rfl, hc⟩ := Reads.elem HR.out hx
      unfold iV at hc
      have hcx := (hb.cell (World.block_lt_of_cell? w _ hc)).trans hc
      have hcall := HF.out x (List.mem_of_getElem? hx) _ hb
      have HSN := Lib.hid (any_snoc hx f)
      have HX := Lib.hid hx
      clear hx hb
      have HC := Lib.hid hcall
      clear hc
      go_wp2_with fail
      refine HC.out.mono ?_
      rintro e w2 ⟨rfl, hb2⟩
      have HB2 := Lib.hid (HB.out.trans (hb2.mono HB.out.size))
      clear hb2 hcall hcx
      generalize hfx : f x = t
      have HFX := Lib.hid hfx
      rw [hfx] at HSN
      clear hfx
      cases t
      · go_wp2
        go_roundw
        case rel => exact ⟨k + 1, by omega, by go_num, by rw [HSN.out, HNO.out]; rfl, HB2.out⟩
        case measure => simp [intOf]; omega
      · have HAN := Lib.hid (any_yes HX.out HFX.out)
        go_wp2
        go_ret
        exact ⟨_, rfl, by omega, by rw [HAN.out]; simp, HB2.out⟩
    · have hle : (l.length : Int) ≤ k := by omega
      have HALL := Lib.hid (show l.any f = false from by have h := HNO.out; rw [List.take_of_length_le (by omega)] at h; exact h)
      go_wp2
      go_ret
      exact ⟨_, rfl, by omega, by rw [HALL.out]; rfl, HB.out⟩
set_option maxHeartbeats 1000000 in
theorem ContIs (V : Nat) (lv : Value) (l : List (Int)) (f : (Int) → Bool) (w : World) (hr : (fun w v l => Reads w iV v l) w lv l)
    (hf : ∀ n ∈ l, ∀ w', Below w.heap.size w w' → Calls Try.prog 31 #[.int .i64 n, .pointer (some ⟨V, 0, none⟩)] w' (BoolP (f n) w')) :
    Calls Try.prog 30 #[lv, .func (.func 31) #[] #[.pointer (some ⟨V, 0, none⟩)]] w (BoolP (l.any f) w) := by
  have hcall := IdxIs V lv l f w hr hf
  generalize hb : l.any f = b at hcall
  have HC := Lib.hid hcall
  obtain ⟨a, c, rfl⟩ := Reads.shape hr
  clear hcall hr hf hb
  go_enter Try.func30, Try.ntmps30
  go_wp2_with fail
  refine HC.out.mono ?_
  rintro e w2 ⟨r, rfl, hr1, hrb, hb⟩
  have HB := Lib.hid hb
  have HRB := Lib.hid hrb
  clear hrb hb
  go_wp2
  go_ret
  exact ⟨ret_bool HRB.out, HB.out⟩
/-! the closure that tells whether a number is marked -/
/-- is the n-th marked? -/
def isT (M : List Bool) (n : Int) : Bool := (M[n.toNat]?).getD false
/-- in w the variable V holds the marks M, in block IB -/
def Marks (w : World) (V IB : Nat) (M : List Bool) : Prop := w.cell? ⟨V, 0, none⟩ = some (.slice (some ⟨IB, 0, none⟩) M.length M.length) ∧ w.heap[IB]? = some (.cells (M.map bV).toArray 4 (0, 0))
theorem Marks.below {w w' : World} {V IB B : Nat} {M : List Bool} (h : Marks w V IB M) (hb : Below B w w') (hB : w.heap.size ≤ B) : Marks w' V IB M :=
  ⟨(hb.cell (Nat.lt_of_lt_of_le (World.block_lt_of_cell? w _ h.1) hB)).trans h.1, (hb.block IB (Nat.lt_of_lt_of_le (Array.getElem?_eq_some_iff.1 h.2).1 hB)).trans h.2⟩
theorem is_any (V IB : Nat) (M : List Bool) (n : Int) (h0 : 0 ≤ n) (h1 : n < M.length) (w : World) (h : Marks w V IB M) :
    Calls Try.prog 31 #[.int .i64 n, .pointer (some ⟨V, 0, none⟩)] w (BoolP (isT M n) w) := by
  obtain ⟨k, rfl⟩ : ∃ k : Nat, n = k := ⟨n.toNat, by omega⟩
  obtain ⟨b, hb⟩ : ∃ b, M[k]? = some b := ⟨_, List.getElem?_eq_getElem (by omega)⟩
  have hc : w.cell? ⟨IB, k, none⟩ = some (.bool b) := by rw [cell_of_row w IB k _ _ (0, 0) h.2]; simp [hb, bV]
  have hi : isT M k = b := by unfold isT; simp [hb]
  obtain ⟨hv, -⟩ := h
  rw [hi]
  clear hi hb
  go_enter Try.func31, Try.ntmps31
  go_wp2
  go_ret
  exact ⟨rfl, Below.refl _ _⟩
theorem lacks_any (V IB : Nat) (M : List Bool) (r : Value) (x : List Int) (hx : ∀ n ∈ x, 0 ≤ n ∧ n < M.length) (w : World) (h : Marks w V IB M) (hr : Reads w iV r x) :
    Calls Try.prog 29 #[r, .pointer (some ⟨V, 0, none⟩)] w (BoolP (!(x.any (isT M))) w) := by
  have hcall := ContIs V r x (isT M) w hr (fun n hn w' hb => is_any V IB M n (hx n hn).1 (hx n hn).2 w' (h.below hb (Nat.le_refl _)))
  generalize x.any (isT M) = b at hcall
  have HC := Lib.hid hcall
  obtain ⟨a, c, rfl⟩ := hr.shape
  clear hcall hr h hx
  go_enter Try.func29, Try.ntmps29
  go_wp2_with fail
  refine HC.out.mono ?_
  rintro e w2 ⟨rfl, hb⟩
  have HB := Lib.hid hb
  clear hb
  go_wp2
  go_ret
  exact ⟨rfl, HB.out⟩
set_option maxHeartbeats 2000000 in
theorem IdxLacks (V : Nat) (lv : Value) (l : List (List Int)) (f : (List Int) → Bool) (w : World) (hr : Rd2 w lv l)
    (hf : ∀ x ∈ l, ∀ w', Below w.heap.size w w' → ∀ r, Reads w' iV r x → Calls Try.prog 29 #[r, .pointer (some ⟨V, 0, none⟩)] w' (BoolP (f x) w')) :
    Calls Try.prog 37 #[lv, .func (.func 29) #[] #[.pointer (some ⟨V, 0, none⟩)]] w (IdxP (l.any f) w) := by
  obtain ⟨a, c, rfl⟩ := RdOf.shape hr
  have hl := RdOf.len hr
  have hlI : (l.length : Int) ≤ 9223372036854775807 := by omega
  have HR := Lib.hid hr
  have HF := Lib.hid hf
  clear hr hf
  go_enter Try.func37, Try.ntmps37
  go_wp2_with fail
  go_loopw [8] (fun i wr => ∃ k : Nat, k ≤ l.length ∧ i = .int .i64 k ∧ (l.take k).any f = false ∧ Below w.heap.size w wr) (fun i _ => l.length - (intOf i).toNat)
  case atStart => exact ⟨0, by omega, rfl, rfl, Below.refl _ _⟩
  case round =>
    obtain ⟨k, hk, rfl, hno, hb⟩ := hrel
    have HNO := Lib.hid hno
    have HB := Lib.hid hb
    clear hno
    by_cases hlt : k < l.length
    · obtain ⟨x, hx⟩ : ∃ x, l[k]? = some x := ⟨_, List.getElem?_eq_getElem hlt⟩
      obtain ⟨b, r, rfl, hc, hrx⟩ := RdOf.elem HR.out hx
      have hcx := (hb.cell (World.block_lt_of_cell? w _ hc)).trans hc
      have hcall := HF.out x (List.mem_of_getElem? hx) _ hb r (hrx.below hb (Nat.le_refl _))
      obtain ⟨ra, rc, rfl⟩ := hrx.shape
      have HSN := Lib.hid (any_snoc hx f)
      have HX := Lib.hid hx
      clear hx hb
      have HC := Lib.hid hcall
      clear hc
      go_wp2_with fail
      refine HC.out.mono ?_
      rintro e w2 ⟨rfl, hb2⟩
      have HB2 := Lib.hid (HB.out.trans (hb2.mono HB.out.size))
      clear hb2 hcall hcx
      generalize hfx : f x = t
      have HFX := Lib.hid hfx
      rw [hfx] at HSN
      clear hfx
      cases t
      · go_wp2
        go_roundw
        case rel => exact ⟨k + 1, by omega, by go_num, by rw [HSN.out, HNO.out]; rfl, HB2.out⟩
        case measure => simp [intOf]; omega
      · have HAN := Lib.hid (any_yes HX.out HFX.out)
        go_wp2
        go_ret
        exact ⟨_, rfl, by omega, by rw [HAN.out]; simp, HB2.out⟩
    · have hle : (l.length : Int) ≤ k := by omega
      have HALL := Lib.hid (show l.any f = false from by have h := HNO.out; rw [List.take_of_length_le (by omega)] at h; exact h)
      go_wp2
      go_ret
      exact ⟨_, rfl, by omega, by rw [HALL.out]; rfl, HB.out⟩
set_option maxHeartbeats 1000000 in
theorem ContLacks (V : Nat) (lv : Value) (l : List (List Int)) (f : (List Int) → Bool) (w : World) (hr : Rd2 w lv l)
    (hf : ∀ x ∈ l, ∀ w', Below w.heap.size w w' → ∀ r, Reads w' iV r x → Calls Try.prog 29 #[r, .pointer (some ⟨V, 0, none⟩)] w' (BoolP (f x) w')) :
    Calls Try.prog 33 #[lv, .func (.func 29) #[] #[.pointer (some ⟨V, 0, none⟩)]] w (BoolP (l.any f) w) := by
  have hcall := IdxLacks V lv l f w hr hf
  generalize hb : l.any f = b at hcall
  have HC := Lib.hid hcall
  obtain ⟨a, c, rfl⟩ := RdOf.shape hr
  clear hcall hr hf hb
  go_enter Try.func33, Try.ntmps33
  go_wp2_with fail
  refine HC.out.mono ?_
  rintro e w2 ⟨r, rfl, hr1, hrb, hb⟩
  have HB := Lib.hid hb
  have HRB := Lib.hid hrb
  clear hrb hb
  go_wp2
  go_ret
  exact ⟨ret_bool HRB.out, HB.out⟩
theorem keepR {w w2 w3 : World} {D LV : Nat} {b : Addr} {k : Nat} {u v z : Value} (h : w2.cell? ⟨D, 1, none⟩ = some u ∧ (w2.cell? (b.add k) = some v ∧ (w2.cell? ⟨LV, 0, none⟩ = some z ∧ Below w.heap.size w w2))) (hb : Below w2.heap.size w2 w3) :
    w3.cell? ⟨D, 1, none⟩ = some u ∧ (w3.cell? (b.add k) = some v ∧ (w3.cell? ⟨LV, 0, none⟩ = some z ∧ Below w.heap.size w w3)) :=
  ⟨(hb.cell (World.block_lt_of_cell? w2 _ h.1)).trans h.1, (hb.cell (World.block_lt_of_cell? w2 _ h.2.1)).trans h.2.1, (hb.cell (World.block_lt_of_cell? w2 _ h.2.2.1)).trans h.2.2.1, h.2.2.2.trans (hb.mono h.2.2.2.size)⟩
set_option maxRecDepth 100000 in
set_option maxHeartbeats 4000000 in
theorem lackN_any (d : Dl) (V IB D LV : Nat) (M : List Bool) (vi vw : Value) (hm : mayD d = 0) (hM : M.length = d.its.length) (n : Int) (h0 : 0 ≤ n) (h1 : n < d.its.length) (w : World) (h : Marks w V IB M) (hd : DlIn w D vi vw d.root) (hrd : RdD w vi vw d) (hlv : w.cell? ⟨LV, 0, none⟩ = some (.func (.func 29) #[] #[.pointer (some ⟨V, 0, none⟩)])) :
    Calls Try.prog 32 #[.int .i64 n, .pointer (some ⟨D, 0, none⟩), .pointer (some ⟨LV, 0, none⟩)] w (BoolP ((d.ws.getD n.toNat []).any fun x => !(x.any (isT M))) w) := by
  obtain ⟨k, rfl⟩ : ∃ k : Nat, n = k := ⟨n.toNat, by omega⟩
  obtain ⟨h1024, -, hwl, hall⟩ := mayD_zero hm
  obtain ⟨x, hx⟩ : ∃ x, d.ws[k]? = some x := ⟨_, List.getElem?_eq_getElem (by omega)⟩
  have hget : d.ws.getD (k : Int).toNat [] = x := by rw [List.getD_eq_getElem?_getD]; simp [hx]
  rw [hget]
  obtain ⟨_, _, _, cw, rfl, hve⟩ := hrd.shape
  subst hve
  obtain ⟨b, r, rfl, hcx, hrx⟩ := RdOf.elem hrd.w hx
  obtain ⟨xa, xc, rfl⟩ := hrx.shape
  have hok : ∀ y ∈ x, ∀ n ∈ y, 0 ≤ n ∧ n < M.length := fun y hy n hn => by
    have a1 := List.all_eq_true.1 hall x (List.mem_of_getElem? hx)
    have a2 := List.all_eq_true.1 a1 y hy
    have a3 := inB_iff.1 (List.all_eq_true.1 a2 n hn)
    omega
  have hcall := fun w' (hb : Below w.heap.size w w') => ContLacks V (.slice xa x.length xc) x (fun x => !(x.any (isT M))) w' (hrx.below hb (Nat.le_refl _)) (fun y hy w2 hb2 r hr => lacks_any V IB M r y (hok y hy) w2 (h.below (hb.trans (hb2.mono hb.size)) (Nat.le_refl _)) hr)
  generalize (x.any fun x => !(x.any (isT M))) = ans at hcall
  have HC := Lib.hid hcall
  obtain ⟨x0, x1, x2⟩ := hd
  have hwI : (k : Int) < d.ws.length := by omega
  clear hcall hok hrx hrd h hget hx hall hwl h0
  go_enter Try.func32, Try.ntmps32
  go_upto_region 1 with fail
  refine wp_region_held_drew (S := (fun w' => w'.cell? ⟨D, 1, none⟩ = some (.slice (some b) d.ws.length cw) ∧ (w'.cell? (b.add k) = some (.slice xa x.length xc) ∧ (w'.cell? ⟨LV, 0, none⟩ = some (.func (.func 29) #[] #[.pointer (some ⟨V, 0, none⟩)]) ∧ Below w.heap.size w w')))) (by kernel_rfl) (by (try dsimp only); exact ⟨x1, hcx, hlv, (Below.refl _ _).drew⟩) (fun hHeld => ?_)
  refine wpAnyH_take (i := 0) (v := ?_) (by (simp only [List.getElem?_toArray, List.getElem?_cons_succ, List.getElem?_cons_zero]; rfl)) (by kernel_rfl) (by kernel_rfl) (by kernel_rfl) (by intro _ _ _ h; exact h) (Or.inl ⟨by rfl, ?_⟩) (by assumption) ?_
  rotate_left
  · (intro w hSw; (try dsimp only at hSw); go_simp; try (with_reducible rfl))
  simp only [Act.put, List.setIfInBounds_toArray, List.set_cons_zero, List.set_cons_succ]
  refine wpAnyH_take (i := 1) (v := ?_) (by (simp only [List.getElem?_toArray, List.getElem?_cons_succ, List.getElem?_cons_zero]; rfl)) (by kernel_rfl) (by kernel_rfl) (by kernel_rfl) (by intro _ _ _ h; exact h) (Or.inl ⟨by rfl, ?_⟩) (by assumption) ?_
  rotate_left
  · (intro w hSw; (try dsimp only at hSw); go_simp; try (with_reducible rfl))
  simp only [Act.put, List.setIfInBounds_toArray, List.set_cons_zero, List.set_cons_succ]
  refine wpAnyH_take (i := 2) (v := ?_) (by (simp only [List.getElem?_toArray, List.getElem?_cons_succ, List.getElem?_cons_zero]; rfl)) (by kernel_rfl) (by kernel_rfl) (by kernel_rfl) (by intro _ _ _ h; exact h) (Or.inl ⟨by rfl, ?_⟩) (by assumption) ?_
  rotate_left
  · (intro w hSw; (try dsimp only at hSw); go_simp; try (with_reducible rfl))
  simp only [Act.put, List.setIfInBounds_toArray, List.set_cons_zero, List.set_cons_succ]
  refine wpAnyH_take (i := 3) (v := ?_) (by (simp only [List.getElem?_toArray, List.getElem?_cons_succ, List.getElem?_cons_zero]; rfl)) (by kernel_rfl) (by kernel_rfl) (by kernel_rfl) (by intro _ _ _ h; exact h) (Or.inl ⟨by rfl, ?_⟩) (by assumption) ?_
  rotate_left
  · (intro w hSw; (try dsimp only at hSw); go_simp; try (with_reducible rfl))
  simp only [Act.put, List.setIfInBounds_toArray, List.set_cons_zero, List.set_cons_succ]
  refine wpAnyH_take (i := 4) (v := ?_) (by (simp only [List.getElem?_toArray, List.getElem?_cons_succ, List.getElem?_cons_zero]; rfl)) (by kernel_rfl) (by kernel_rfl) (by kernel_rfl) (by intro _ _ _ h; exact h) (Or.inl ⟨by rfl, ?_⟩) (by assumption) ?_
  rotate_left
  · (intro w hSw; (try dsimp only at hSw); go_simp; try (with_reducible rfl))
  simp only [Act.put, List.setIfInBounds_toArray, List.set_cons_zero, List.set_cons_succ]
  refine wpAnyH_take (i := 5) (v := ?_) (by (simp only [List.getElem?_toArray, List.getElem?_cons_succ, List.getElem?_cons_zero]; rfl)) (by kernel_rfl) (by kernel_rfl) (by kernel_rfl) (by intro _ _ _ h; exact h) (Or.inl ⟨by rfl, ?_⟩) (by assumption) ?_
  rotate_left
  · (intro w hSw; (try dsimp only at hSw); go_simp; try (with_reducible rfl))
  simp only [Act.put, List.setIfInBounds_toArray, List.set_cons_zero, List.set_cons_succ]
  have hop := HC.out _ hHeld.2.2.2
  refine wpAnyH_ready (rs := [6]) (by kernel_rfl) (by simp) ?_
  refine AllReadyH.cons (by (simp only [List.getElem?_toArray, List.getElem?_cons_succ, List.getElem?_cons_zero]; rfl)) (fun K hK => ?_) AllReadyH.nil
  go_simp
  go_at_call 33; refine hop.mono ?_; rintro e w3 ⟨rfl, hb3⟩
  refine hK.out _ _ (by (try dsimp only); exact keepR hHeld hb3) (fun hHeld => ?_)
  clear hK K
  try simp only [Act.put, List.setIfInBounds_toArray, List.set_cons_zero, List.set_cons_succ]
  refine wpAnyH_take (i := 7) (v := ?_) (by (simp only [List.getElem?_toArray, List.getElem?_cons_succ, List.getElem?_cons_zero]; rfl)) (by kernel_rfl) (by kernel_rfl) (by kernel_rfl) (by intro _ _ _ h; exact h) (Or.inl ⟨by rfl, ?_⟩) (by assumption) ?_
  rotate_left
  · (intro w hSw; (try dsimp only at hSw); go_simp; try (with_reducible rfl))
  simp only [Act.put, List.setIfInBounds_toArray, List.set_cons_zero, List.set_cons_succ]
  refine wpAnyH_done (by kernel_rfl) ?_ _
  have HBE := Lib.hid hHeld.2.2.2
  clear hHeld
  go_wp2
  go_ret
  exact ⟨rfl, HBE.out⟩
set_option maxHeartbeats 2000000 in
theorem IdxLack (D LV : Nat) (lv : Value) (l : List (Int)) (f : (Int) → Bool) (w : World) (hr : (fun w v l => Reads w iV v l) w lv l)
    (hf : ∀ n ∈ l, ∀ w', Below w.heap.size w w' → Calls Try.prog 32 #[.int .i64 n, .pointer (some ⟨D, 0, none⟩), .pointer (some ⟨LV, 0, none⟩)] w' (BoolP (f n) w')) :
    Calls Try.prog 36 #[lv, .func (.func 32) #[] #[.pointer (some ⟨D, 0, none⟩), .pointer (some ⟨LV, 0, none⟩)]] w (IdxP (l.any f) w) := by
  obtain ⟨a, c, rfl⟩ := Reads.shape hr
  have hl := Reads.len hr
  have hlI : (l.length : Int) ≤ 9223372036854775807 := by omega
  have HR := Lib.hid hr
  have HF := Lib.hid hf
  clear hr hf
  go_enter Try.func36, Try.ntmps36
  go_wp2_with fail
  go_loopw [8] (fun i wr => ∃ k : Nat, k ≤ l.length ∧ i = .int .i64 k ∧ (l.take k).any f = false ∧ Below w.heap.size w wr) (fun i _ => l.length - (intOf i).toNat)
  case atStart => exact ⟨0, by omega, rfl, rfl, Below.refl _ _⟩
  case round =>
    obtain ⟨k, hk, rfl, hno, hb⟩ := hrel
    have HNO := Lib.hid hno
    have HB := Lib.hid hb
    clear hno
    by_cases hlt : k < l.length
    · obtain ⟨x, hx⟩ : ∃ x, l[k]? = some x := ⟨_, List.getElem?_eq_getElem hlt⟩
      obtain ⟨b, rfl, hc⟩ := Reads.elem HR.out hx
      unfold iV at hc
      have hcx := (hb.cell (World.block_lt_of_cell? w _ hc)).trans hc
      have hcall := HF.out x (List.mem_of_getElem? hx) _ hb
      have HSN := Lib.hid (any_snoc hx f)
      have HX := Lib.hid hx
      clear hx hb
      have HC := Lib.hid hcall
      clear hc
      go_wp2_with fail
      refine HC.out.mono ?_
      rintro e w2 ⟨rfl, hb2⟩
      have HB2 := Lib.hid (HB.out.trans (hb2.mono HB.out.size))
      clear hb2 hcall hcx
      generalize hfx : f x = t
      have HFX := Lib.hid hfx
      rw [hfx] at HSN
      clear hfx
      cases t
      · go_wp2
        go_roundw
        case rel => exact ⟨k + 1, by omega, by go_num, by rw [HSN.out, HNO.out]; rfl, HB2.out⟩
        case measure => simp [intOf]; omega
      · have HAN := Lib.hid (any_yes HX.out HFX.out)
        go_wp2
        go_ret
        exact ⟨_, rfl, by omega, by rw [HAN.out]; simp, HB2.out⟩
    · have hle : (l.length : Int) ≤ k := by omega
      have HALL := Lib.hid (show l.any f = false from by have h := HNO.out; rw [List.take_of_length_le (by omega)] at h; exact h)
      go_wp2
      go_ret
      exact ⟨_, rfl, by omega, by rw [HALL.out]; rfl, HB.out⟩
set_option maxHeartbeats 1000000 in
theorem ContLack (D LV : Nat) (lv : Value) (l : List (Int)) (f : (Int) → Bool) (w : World) (hr : (fun w v l => Reads w iV v l) w lv l)
    (hf : ∀ n ∈ l, ∀ w', Below w.heap.size w w' → Calls Try.prog 32 #[.int .i64 n, .pointer (some ⟨D, 0, none⟩), .pointer (some ⟨LV, 0, none⟩)] w' (BoolP (f n) w')) :
    Calls Try.prog 30 #[lv, .func (.func 32) #[] #[.pointer (some ⟨D, 0, none⟩), .pointer (some ⟨LV, 0, none⟩)]] w (BoolP (l.any f) w) := by
  have hcall := IdxLack D LV lv l f w hr hf
  generalize hb : l.any f = b at hcall
  have HC := Lib.hid hcall
  obtain ⟨a, c, rfl⟩ := Reads.shape hr
  clear hcall hr hf hb
  go_enter Try.func30, Try.ntmps30
  go_wp2_with fail
  refine HC.out.mono ?_
  rintro e w2 ⟨r, rfl, hr1, hrb, hb⟩
  have HB := Lib.hid hb
  have HRB := Lib.hid hrb
  clear hrb hb
  go_wp2
  go_ret
  exact ⟨ret_bool HRB.out, HB.out⟩
end Go.Proofs.Ytgfgajekegfdgaa
