/-
  Layer 24: the contract of lock.Parse. Own work.
-/
import Derived.Test.YtcmojpfolmcaoaaDoorTake24
namespace Go.Proofs.YtcmojpfolmcaoaaDoor
set_option linter.unusedVariables false
set_option linter.unusedSimpArgs false
open Go.RowKit Go.Joins

theorem cut_pcd (R : List UInt8) :
    ((Lib.cut R [10]).2.2 = false ∧ (Lib.cut R [10]).1 = R ∧ (Lib.cut R [10]).2.1 = [] ∧ pcd 10 R = [R]) ∨
    ((Lib.cut R [10]).2.2 = true ∧ pcd 10 R = (Lib.cut R [10]).1 :: pcd 10 (Lib.cut R [10]).2.1 ∧ (Lib.cut R [10]).2.1.length < R.length ∧ (Lib.cut R [10]).1.length ≤ R.length) := by
  have hg := Lib.index_ge R [10]
  by_cases hi : Lib.index R [10] = -1
  · left
    have hm : Lib.indexByte R 10 = -1 := by rw [← Lib.index_one]; exact hi
    unfold Lib.cut
    rw [if_neg (by omega)]
    exact ⟨rfl, rfl, rfl, pcd_miss R hm⟩
  · right
    obtain ⟨i, hi'⟩ : ∃ i : Nat, Lib.index R [10] = i := ⟨(Lib.index R [10]).toNat, by omega⟩
    have hm : Lib.indexByte R 10 = i := by rw [← Lib.index_one]; exact hi'
    have hr := Lib.index_room R [10] (by omega)
    rw [hi'] at hr
    unfold Lib.cut
    rw [if_pos (by omega), hi']
    have e1 : (i : Int).toNat = i := by omega
    simp only [e1, List.length_cons, List.length_nil] at hr ⊢
    refine ⟨trivial, pcd_hit R i hm, ?_, ?_⟩
    · rw [List.length_drop]; omega
    · rw [List.length_take]; omega
theorem take_okS {n : Nat} {t : List UInt8} {st st' : St} (ht : t.length ≤ 1000000) (h : takeM n t st = some st') (hok : okS st) : okS st' := by
  rcases take_line h with ⟨_, _, rfl⟩ | ⟨_, _, _, g, a, v, _, _, rfl⟩ | ⟨_, _, _, p, k4, k5, _, rfl⟩ | ⟨_, _, _, _, rfl⟩
  · exact hok
  · exact hok
  · refine ⟨fun q hq => ?_, by simp; omega⟩
    rcases List.mem_append.1 hq with hq | hq
    · exact hok.1 q hq
    · simp only [List.mem_cons, List.not_mem_nil, or_false] at hq
      subst hq
      have hl := congrArg List.length k4
      have h0 : (printKey q.g q.a q.t q.c).data.toList.length = (printKey q.g q.a q.t q.c).size := by simp
      have h9 : q.v.data.toList.length = q.v.size := by simp
      have h1 : q.g.size ≤ (printKey q.g q.a q.t q.c).size ∧ q.a.size ≤ (printKey q.g q.a q.t q.c).size ∧ q.t.size ≤ (printKey q.g q.a q.t q.c).size ∧ q.c.size ≤ (printKey q.g q.a q.t q.c).size := by
        unfold printKey
        have e : (⟨#[58]⟩ : ByteArray).size = 1 := rfl
        split
        all_goals
          simp only [ByteArray.size_append, e]
          refine ⟨?_, ?_, ?_, ?_⟩ <;> omega
      unfold pinLine at hl
      simp only [List.length_append, List.length_cons] at hl
      refine ⟨?_, ?_, ?_, ?_, ?_⟩ <;> unfold okT <;> omega
  · exact hok
/-- the text that is still to be read -/
def SB (w : World) (S : Nat) (R : List UInt8) : Prop := w.heap[S]? = some (.cells #[.string (str R)] 9 (0, 0))
theorem SB.cell {w : World} {S : Nat} {R : List UInt8} (h : SB w S R) : w.cell? ⟨S, 0, none⟩ = some (.string (str R)) := by rw [cell_of_row w S 0 _ _ (0, 0) h]; rfl
theorem SB.frozen {w : World} {S : Nat} {R : List UInt8} (h : SB w S R) : w.frozen? ⟨S, 0, none⟩ = false := frozen_of_row w S 0 _ _ h
theorem SB.lt {w : World} {S : Nat} {R : List UInt8} (h : SB w S R) : S < w.heap.size := (Array.getElem?_eq_some_iff.1 h).1
theorem SB.set {w : World} {S : Nat} {R : List UInt8} (h : SB w S R) (q : List UInt8) : SB (w.setCell ⟨S, 0, none⟩ (.string (str q))) S q := by
  have := heap_setCell_same w S 0 #[.string (str R)] 9 (.string (str q)) h
  simpa [SB] using this
/-- what the function that takes line by line leaves -/
def NextP (S : Nat) (R : List UInt8) (w : World) (e : Ending) (w' : World) : Prop :=
  (R = [] ∧ e = .returned (.tuple #[.string ⟨#[]⟩, .bool false, .bool false]) ∧ w' = w) ∨
  (R ≠ [] ∧ e = .returned (.tuple #[.string (str (Lib.cut R [10]).1), .bool (Lib.cut R [10]).2.2, .bool true]) ∧ ∃ n, w' = (w.drewN n).setCell ⟨S, 0, none⟩ (.string (str (Lib.cut R [10]).2.1)))
set_option maxRecDepth 100000 in
set_option maxHeartbeats 1000000 in
theorem next_at (S : Nat) (R : List UInt8) (hR : R.length ≤ 1000000) (w : World) (hT : MaxOk w) (h : SB w S R) :
    Calls Tryd.prog 49 #[.pointer (some ⟨S, 0, none⟩)] w (NextP S R w) := by
  have hc := h.cell
  have hf := h.frozen
  have HS := Lib.hid h
  have heq := lit_eq R []
  by_cases h0 : R = []
  · have hq : ((str R).toList == []) = true := by rw [heq]; simpa using h0
    have H0 := Lib.hid h0
    clear h0 heq
    go_enter Tryd.func49, Tryd.ntmps49
    go_wp2
    go_ret3
    exact .inl ⟨H0.out, rfl, rfl⟩
  · have hq : ((str R).toList == []) = false := by rw [heq]; simpa using h0
    have H0 := Lib.hid h0
    obtain ⟨_, m, hm⟩ := hT
    have hcut := Tryd.strings_Cut (str R) ⟨#[10]⟩ m w (by rw [size_str]; omega) hm
    rw [str_data, show (⟨#[10]⟩ : ByteArray).data.toList = [10] from rfl] at hcut
    have HE := Lib.hid (show NextP S R w = NextP S R w from rfl)
    have hPost : ∀ n, NextP S R w (.returned (.tuple #[.string (str (Lib.cut R [10]).1), .bool (Lib.cut R [10]).2.2, .bool true])) ((w.drewN n).setCell ⟨S, 0, none⟩ (.string (str (Lib.cut R [10]).2.1))) := fun n => .inr ⟨h0, rfl, n, rfl⟩
    change Calls _ _ _ _ (fun e w' => e = .returned (.tuple #[.string (str (Lib.cut R [10]).1), .string (str (Lib.cut R [10]).2.1), .bool (Lib.cut R [10]).2.2]) ∧ ∃ n, w' = w.drewN n) at hcut
    generalize NextP S R w = Post at hPost ⊢
    generalize (Lib.cut R [10]).2.2 = b3 at hcut hPost
    generalize str (Lib.cut R [10]).2.1 = b2 at hcut hPost
    generalize str (Lib.cut R [10]).1 = b1 at hcut hPost
    have HC := Lib.hid hcut
    have HP := Lib.hid hPost
    clear h0 heq hcut hm hPost HE
    go_enter Tryd.func49, Tryd.ntmps49
    go_wp2_with fail
    refine HC.out.mono ?_
    rintro e w2 ⟨rfl, n, rfl⟩
    go_wp2
    go_ret3
    exact HP.out n
set_option maxRecDepth 100000 in
theorem parse_results (tmps : Array Value) (w : World) (R : Nat) (y0 y1 y2 y3 e n : Value) (h2 : tmps.getD 2 undef = .pointer (some ⟨R, 0, none⟩)) (h3 : tmps.getD 3 undef = e) (h4 : tmps.getD 4 undef = n)
    (hR : w.heap[R]? = some (.cells #[y0, y1, y2, y3] 26 (0, 0))) :
    (results Tryd.f15 tmps).run Tryd.prog w = .ok (.tuple #[.agg #[y0, y1, y2, y3], e, n]) w := by
  have h2' : tmps[2]?.getD undef = .pointer (some ⟨R, 0, none⟩) := by simpa using h2
  have h3' : tmps[3]?.getD undef = e := by simpa using h3
  have h4' : tmps[4]?.getD undef = n := by simpa using h4
  have l1 := run_loadVar_row w R 26 26 #[y0, y1, y2, y3] (0, 0) _ hR Tryd.underlying26 rfl (by kernel_rfl)
  simp [results, Tryd.results15, h2', h3', h4', asAddr, l1]
/-- what lock.Parse answers -/
def ParseP (s : List UInt8) (w : World) (e : Ending) (w' : World) : Prop :=
  (∃ st pv, parseL s = .inr st ∧ e = .returned (.tuple #[lockV st.rg st.ra st.rv pv, .int .i64 0, .int .i64 0]) ∧ RdN w' pv st.pins ∧ Below w.heap.size w w') ∨
  (∃ n : Nat, parseL s = .inl n ∧ e = .returned (.tuple #[lockV ⟨#[]⟩ ⟨#[]⟩ ⟨#[]⟩ (.slice none 0 0), .int .i64 1, .int .i64 n]) ∧ Below w.heap.size w w')
/-- what the loop keeps: the result's variable in block W0, the text in the next, the reader behind -/
def PLoop (s : List UInt8) (w : World) (m : Nat) (nv : Value) (wr : World) : Prop :=
  ∃ (n : Nat) (R : List UInt8) (st : St) (pv : Value), nv = .int .i64 n ∧ R.length = m ∧ 1 ≤ n ∧ n + R.length ≤ s.length + 1 ∧ goM n (pcd 10 R) st = parseL s ∧
    SB wr (w.heap.size + 1) R ∧ RS wr (w.heap.size + 1 + 1) st pv ∧ okS st ∧ Below w.heap.size w wr ∧ wr.heap[w.heap.size]? = some (.cells #[.string ⟨#[]⟩, .string ⟨#[]⟩, .string ⟨#[]⟩, .slice none 0 0] 26 (0, 0))
theorem goM_nil (n : Nat) (st : St) : goM n (pcd 10 []) st = (if st.ended = true then .inr st else .inl n) := by
  rw [pcd, goM, if_pos rfl]
theorem goM_last {n : Nat} {R : List UInt8} {st : St} (h : pcd 10 R = [R]) (h0 : R ≠ []) : goM n (pcd 10 R) st = (match takeM n R st with | none => .inl n | some _ => .inl (n + 1)) := by
  rw [h, goM, if_neg h0]
  cases takeM n R st <;> rfl
theorem goM_next {n : Nat} {R x q : List UInt8} {st : St} (h : pcd 10 R = x :: pcd 10 q) : goM n (pcd 10 R) st = (match takeM n x st with | none => .inl n | some st' => goM (n + 1) (pcd 10 q) st') := by
  obtain ⟨y, r, hy⟩ : ∃ y r, pcd 10 q = y :: r := by
    cases hq : pcd 10 q with
    | nil => exact absurd hq (pcd_ne q)
    | cons y r => exact ⟨y, r, rfl⟩
  rw [h, hy, goM]
  cases takeM n x st <;> rfl
theorem row_set4 {w : World} {B : Nat} {x0 x1 x2 x3 : Value} {t : TypeId} (y0 y1 y2 y3 : Value) (h : w.heap[B]? = some (.cells #[x0, x1, x2, x3] t (0, 0))) :
    ((((w.setCell ⟨B, 0, none⟩ y0).setCell ⟨B, 1, none⟩ y1).setCell ⟨B, 2, none⟩ y2).setCell ⟨B, 3, none⟩ y3).heap[B]? = some (.cells #[y0, y1, y2, y3] t (0, 0)) := by
  have g1 := heap_setCell_same w B 0 _ _ y0 h
  have g2 := heap_setCell_same _ B 1 _ _ y1 g1
  have g3 := heap_setCell_same _ B 2 _ _ y2 g2
  have g4 := heap_setCell_same _ B 3 _ _ y3 g3
  simpa using g4
theorem below_set4 {w w' : World} {B : Nat} (h : Below B w w') (y0 y1 y2 y3 : Value) : Below B w ((((w'.setCell ⟨B, 0, none⟩ y0).setCell ⟨B, 1, none⟩ y1).setCell ⟨B, 2, none⟩ y2).setCell ⟨B, 3, none⟩ y3) :=
  (((h.setCell (Nat.le_refl _) _).setCell (Nat.le_refl _) _).setCell (Nat.le_refl _) _).setCell (Nat.le_refl _) _
theorem own_set4 {w : World} {B base e n s : Nat} {v : Value} {xs : List Value} (h : w.ownsRow base e s v n xs) (hB : B < base) (y0 y1 y2 y3 : Value) :
    ((((w.setCell ⟨B, 0, none⟩ y0).setCell ⟨B, 1, none⟩ y1).setCell ⟨B, 2, none⟩ y2).setCell ⟨B, 3, none⟩ y3).ownsRow base e s v n xs :=
  ownsRow_setCell_below (ownsRow_setCell_below (ownsRow_setCell_below (ownsRow_setCell_below h (a := ⟨B, 0, none⟩) hB _) (a := ⟨B, 1, none⟩) hB _) (a := ⟨B, 2, none⟩) hB _) (a := ⟨B, 3, none⟩) hB _
theorem RS.low {w : World} {X S : Nat} {st : St} {pv : Value} (h : RS w X st pv) (hS : S < X) (u : Value) : RS (w.setCell ⟨S, 0, none⟩ u) X st pv :=
  ⟨(heap_setCell_other w ⟨S, 0, none⟩ X u (fun e => by simp only at e; omega)).trans h.1, ownsRow_setCell_below h.2 (a := ⟨S, 0, none⟩) (by simp only; omega) u⟩
theorem lines_any (s : ByteArray) (w : World) :
    Calls Tryd.prog 34 #[.string s] w fun e w' => e = .returned (.func (.func 49) #[] #[.pointer (some ⟨w.heap.size, 0, none⟩)]) ∧ w' = w.alloc (.cells #[.string s] 9) := by
  go_enter Tryd.func34, Tryd.ntmps34
  go_wp2
  go_ret
  exact ⟨rfl, rfl⟩
theorem parse_start (s : List UInt8) (w : World) :
    PLoop s w s.length (.int .i64 1) (((w.alloc (.cells #[.string ⟨#[]⟩, .string ⟨#[]⟩, .string ⟨#[]⟩, .slice none 0 0] 26)).alloc (.cells #[.string (str s)] 9)).alloc (.cells #[.string ⟨#[]⟩, .string ⟨#[]⟩, .string ⟨#[]⟩, .slice none 0 0, .bool false] 66)) := by
  refine ⟨1, s, st0, .slice none 0 0, rfl, rfl, Nat.le_refl _, by omega, rfl, ?_, ⟨?_, World.ownsRow_nil _ _ _ _⟩, ⟨by simp [st0], by simp [st0]⟩, (((Below.refl w.heap.size w).alloc (Nat.le_refl _) _).alloc (by simp) _).alloc (by simp; omega) _, ?_⟩
  · have h1 := heap_alloc_new (w.alloc (.cells #[.string ⟨#[]⟩, .string ⟨#[]⟩, .string ⟨#[]⟩, .slice none 0 0] 26)) (.cells #[.string (str s)] 9)
    have h2 := (Below.heap_alloc ((w.alloc (.cells #[.string ⟨#[]⟩, .string ⟨#[]⟩, .string ⟨#[]⟩, .slice none 0 0] 26)).alloc (.cells #[.string (str s)] 9)) (.cells #[.string ⟨#[]⟩, .string ⟨#[]⟩, .string ⟨#[]⟩, .slice none 0 0, .bool false] 66) _ (by simp)).trans h1
    simpa [SB] using h2
  · have h1 := heap_alloc_new ((w.alloc (.cells #[.string ⟨#[]⟩, .string ⟨#[]⟩, .string ⟨#[]⟩, .slice none 0 0] 26)).alloc (.cells #[.string (str s)] 9)) (.cells #[.string ⟨#[]⟩, .string ⟨#[]⟩, .string ⟨#[]⟩, .slice none 0 0, .bool false] 66)
    simpa [st0] using h1
  · rw [Below.heap_alloc _ _ _ (by simp; omega), Below.heap_alloc _ _ _ (by simp)]
    exact heap_alloc_new w _
set_option maxRecDepth 100000 in
set_option maxHeartbeats 4000000 in
theorem Parse_any (s : List UInt8) (hs : s.length ≤ 100000) (w : World) (hT : Tb w) :
    Calls Tryd.prog 15 #[.string (str s)] w (ParseP s w) := by
  have hst := parse_start s w
  have HT := Lib.hid hT
  clear hT
  go_enter Tryd.func15, Tryd.ntmps15
  go_wp2_with fail
  refine (lines_any _ _).mono ?_
  rintro e w1 ⟨rfl, rfl⟩
  go_upto_region 3 with fail
  generalize ((w.alloc (.cells #[.string { data := #[] }, .string { data := #[] }, .string { data := #[] }, .slice none 0 0] 26)).alloc (.cells #[.string (str s)] 9)).alloc (.cells #[.string { data := #[] }, .string { data := #[] }, .string { data := #[] }, .slice none 0 0, .bool false] 66) = w3 at hst ⊢
  have HST := Lib.hid hst
  clear hst
  go_wp2_with fail
  go_loopw [7] (fun nv wr => ∃ m, PLoop s w m nv wr) (fun nv wr => match wr.cell? ⟨w.heap.size + 1, 0, none⟩ with | some (.string t) => t.size | _ => 0)
  case atStart => exact ⟨_, HST.out⟩
  case round =>
    obtain ⟨m, n, R, st, pv, rfl, rfl, hn1, hnR, hgo, hsb, hrs, hok, hb, hres⟩ := hrel
    obtain ⟨va, vc, rfl⟩ := hrs.slice
    have hTr : Tb wr := HT.out.below hb (Nat.le_refl _)
    have hRl : R.length ≤ 100000 := by omega
    have hnx := next_at (w.heap.size + 1) R (by omega) wr hTr.1 hsb
    have hnI : (n : Int) ≤ 100001 := by omega
    have hnI0 : (1 : Int) ≤ n := by omega
    have HNX := Lib.hid hnx
    have HSB := Lib.hid hsb
    have HRS := Lib.hid hrs
    have HOK := Lib.hid hok
    have HB := Lib.hid hb
    have HGO := Lib.hid hgo
    have HTR := Lib.hid hTr
    have HRES := Lib.hid hres
    clear hnx hsb hrs hok hb hgo hTr hres
    go_wp2_with fail
    refine HNX.out.mono ?_
    rintro e w4 (⟨hR0, rfl, rfl⟩ | ⟨hR0, rfl, k, rfl⟩)
    · have HG0 := Lib.hid (show parseL s = (if st.ended = true then .inr st else .inl n) by rw [← HGO.out, hR0, goM_nil])
      obtain ⟨y0, y1, y2, y3, y4⟩ := HRS.out.cells
      have hXl : w.heap.size + 1 + 1 < w4.heap.size := HRS.out.lt
      have hSl : w.heap.size < w4.heap.size := by omega
      have f0 : w4.frozen? ⟨w.heap.size, 0, none⟩ = false := frozen_of_row w4 _ 0 _ _ HRES.out
      have f1 : w4.frozen? ⟨w.heap.size, 1, none⟩ = false := frozen_of_row w4 _ 1 _ _ HRES.out
      have f2 : w4.frozen? ⟨w.heap.size, 2, none⟩ = false := frozen_of_row w4 _ 2 _ _ HRES.out
      have f3 : w4.frozen? ⟨w.heap.size, 3, none⟩ = false := frozen_of_row w4 _ 3 _ _ HRES.out
      have r0 : w4.cell? ⟨w.heap.size, 0, none⟩ = some (.string ⟨#[]⟩) := by rw [cell_of_row w4 _ 0 _ _ (0, 0) HRES.out]; rfl
      have r1 : w4.cell? ⟨w.heap.size, 1, none⟩ = some (.string ⟨#[]⟩) := by rw [cell_of_row w4 _ 1 _ _ (0, 0) HRES.out]; rfl
      have r2 : w4.cell? ⟨w.heap.size, 2, none⟩ = some (.string ⟨#[]⟩) := by rw [cell_of_row w4 _ 2 _ _ (0, 0) HRES.out]; rfl
      have r3 : w4.cell? ⟨w.heap.size, 3, none⟩ = some (.slice none 0 0) := by rw [cell_of_row w4 _ 3 _ _ (0, 0) HRES.out]; rfl
      clear hR0
      cases hen : st.ended
      · have HF := Lib.hid (show parseL s = .inl n by rw [HG0.out, hen]; rfl)
        rw [hen] at y4
        clear hen
        go_wp2
        refine bodyPost_ret (parse_results _ _ w.heap.size _ _ _ _ _ _ rfl rfl rfl (row_set4 _ _ _ _ HRES.out)) rfl ?_
        exact .inr ⟨n, HF.out, rfl, below_set4 HB.out _ _ _ _⟩
      · have HF := Lib.hid (show parseL s = .inr st by rw [HG0.out, if_pos hen])
        rw [hen] at y4
        clear hen
        go_wp2
        refine bodyPost_ret (parse_results _ _ w.heap.size _ _ _ _ _ _ rfl rfl rfl (row_set4 _ _ _ _ HRES.out)) rfl ?_
        exact .inl ⟨st, _, HF.out, rfl, RdN.of_own (own_set4 HRS.out.2 (by omega) _ _ _ _), below_set4 HB.out _ _ _ _⟩
    · have hcp := cut_pcd R
      have hw5 : Below w.heap.size w ((wr.drewN k).setCell ⟨w.heap.size + 1, 0, none⟩ (.string (str (Lib.cut R [10]).2.1))) := (below_drewN HB.out k).setCell (by simp) _
      have hs5 : SB ((wr.drewN k).setCell ⟨w.heap.size + 1, 0, none⟩ (.string (str (Lib.cut R [10]).2.1))) (w.heap.size + 1) (Lib.cut R [10]).2.1 := SB.set (w := wr.drewN k) HSB.out _
      have hr5 : RS ((wr.drewN k).setCell ⟨w.heap.size + 1, 0, none⟩ (.string (str (Lib.cut R [10]).2.1))) (w.heap.size + 1 + 1) st (.slice va st.pins.length vc) := RS.low (w := wr.drewN k) HRS.out (by omega) _
      have hre5 : ((wr.drewN k).setCell ⟨w.heap.size + 1, 0, none⟩ (.string (str (Lib.cut R [10]).2.1))).heap[w.heap.size]? = some (.cells #[.string ⟨#[]⟩, .string ⟨#[]⟩, .string ⟨#[]⟩, .slice none 0 0] 26 (0, 0)) := (heap_setCell_other (wr.drewN k) ⟨w.heap.size + 1, 0, none⟩ w.heap.size _ (fun e => by simp only at e; omega)).trans HRES.out
      generalize ((wr.drewN k).setCell ⟨w.heap.size + 1, 0, none⟩ (.string (str (Lib.cut R [10]).2.1))) = w5 at hw5 hs5 hr5 hre5 ⊢
      generalize (Lib.cut R [10]).1 = t at hcp ⊢
      generalize (Lib.cut R [10]).2.1 = q at hcp hs5
      generalize (Lib.cut R [10]).2.2 = bb at hcp ⊢
      have htl : t.length ≤ 100000 := by rcases hcp with ⟨_, rfl, _⟩ | ⟨_, _, _, h⟩ <;> omega
      have htk := take_at (w.heap.size + 1 + 1) st (.slice va st.pins.length vc) n (by omega) t (by omega) HOK.out w5 (HT.out.below hw5 (Nat.le_refl _)) hr5
      have HTK := Lib.hid htk
      have HW5 := Lib.hid hw5
      have HS5 := Lib.hid hs5
      have HRE5 := Lib.hid hre5
      have HR0 := Lib.hid hR0
      have HCP := Lib.hid hcp
      obtain ⟨y0, y1, y2, y3, y4⟩ := hr5.cells
      clear htk hw5 hs5 hre5 hR0 hcp hr5
      go_wp2_with fail
      refine HTK.out.mono ?_
      rintro e w6 (⟨st', pv', h, rfl, hr6, hb6⟩ | ⟨h, rfl, hb6⟩)
      · have H := Lib.hid h
        have HR6 := Lib.hid hr6
        have HBX := Lib.hid hb6
        have HB6 := Lib.hid (HW5.out.trans (hb6.mono (by omega)))
        have HS6 := Lib.hid (show SB w6 (w.heap.size + 1) q from (hb6.block _ (by omega)).trans HS5.out)
        have HRE6 := Lib.hid ((hb6.block _ (by omega)).trans HRE5.out)
        clear y0 y1 y2 y3 y4 h hr6 hb6
        have hX6 : w.heap.size < w6.heap.size := by have := HR6.out.lt; omega
        have f0 : w6.frozen? ⟨w.heap.size, 0, none⟩ = false := frozen_of_row w6 _ 0 _ _ HRE6.out
        have f1 : w6.frozen? ⟨w.heap.size, 1, none⟩ = false := frozen_of_row w6 _ 1 _ _ HRE6.out
        have f2 : w6.frozen? ⟨w.heap.size, 2, none⟩ = false := frozen_of_row w6 _ 2 _ _ HRE6.out
        have f3 : w6.frozen? ⟨w.heap.size, 3, none⟩ = false := frozen_of_row w6 _ 3 _ _ HRE6.out
        have r0 : w6.cell? ⟨w.heap.size, 0, none⟩ = some (.string ⟨#[]⟩) := by rw [cell_of_row w6 _ 0 _ _ (0, 0) HRE6.out]; rfl
        have r1 : w6.cell? ⟨w.heap.size, 1, none⟩ = some (.string ⟨#[]⟩) := by rw [cell_of_row w6 _ 1 _ _ (0, 0) HRE6.out]; rfl
        have r2 : w6.cell? ⟨w.heap.size, 2, none⟩ = some (.string ⟨#[]⟩) := by rw [cell_of_row w6 _ 2 _ _ (0, 0) HRE6.out]; rfl
        have r3 : w6.cell? ⟨w.heap.size, 3, none⟩ = some (.slice none 0 0) := by rw [cell_of_row w6 _ 3 _ _ (0, 0) HRE6.out]; rfl
        cases bb
        · have HF := Lib.hid (show parseL s = .inl (n + 1) by
            rcases HCP.out with ⟨_, ht, _, hp⟩ | ⟨hb, _⟩
            · subst ht; rw [← HGO.out, goM_last hp HR0.out, H.out]
            · cases hb)
          go_wp2
          refine bodyPost_ret (parse_results _ _ w.heap.size _ _ _ _ _ _ rfl rfl rfl (row_set4 _ _ _ _ HRE6.out)) rfl ?_
          exact .inr ⟨n + 1, HF.out, by push_cast; rfl, below_set4 HB6.out _ _ _ _⟩
        · have HF := Lib.hid (show q.length < R.length ∧ goM (n + 1) (pcd 10 q) st' = parseL s by
            rcases HCP.out with ⟨hb, _⟩ | ⟨_, hp, hq, _⟩
            · cases hb
            · refine ⟨hq, ?_⟩
              rw [← HGO.out, goM_next hp, H.out])
          have HOK6 := Lib.hid (take_okS (by omega) H.out HOK.out)
          have hmeas : w6.cell? ⟨w.heap.size + 1, 0, none⟩ = some (.string (str q)) := HS6.out.cell
          have hmeas0 : wr.cell? ⟨w.heap.size + 1, 0, none⟩ = some (.string (str R)) := HSB.out.cell
          have HM := Lib.hid hmeas
          have HM0 := Lib.hid hmeas0
          clear f0 f1 f2 f3 r0 r1 r2 r3 hmeas hmeas0
          go_wp2
          go_roundw
          case rel => exact ⟨_, n + 1, q, st', pv', by go_num, rfl, by omega, by have := HF.out.1; omega, HF.out.2, HS6.out, HR6.out, HOK6.out, HB6.out, HRE6.out⟩
          case measure =>
            rw [HM.out, HM0.out]
            simp only [size_str]
            exact HF.out.1
      · have H := Lib.hid h
        have HB6 := Lib.hid (HW5.out.trans (hb6.mono (by omega)))
        have HRE6 := Lib.hid ((hb6.block _ (by omega)).trans HRE5.out)
        have hX6 : w.heap.size < w6.heap.size := by have := hb6.size; have := (Array.getElem?_eq_some_iff.1 HRE5.out).1; omega
        clear y0 y1 y2 y3 y4 h hb6
        have f0 : w6.frozen? ⟨w.heap.size, 0, none⟩ = false := frozen_of_row w6 _ 0 _ _ HRE6.out
        have f1 : w6.frozen? ⟨w.heap.size, 1, none⟩ = false := frozen_of_row w6 _ 1 _ _ HRE6.out
        have f2 : w6.frozen? ⟨w.heap.size, 2, none⟩ = false := frozen_of_row w6 _ 2 _ _ HRE6.out
        have f3 : w6.frozen? ⟨w.heap.size, 3, none⟩ = false := frozen_of_row w6 _ 3 _ _ HRE6.out
        have r0 : w6.cell? ⟨w.heap.size, 0, none⟩ = some (.string ⟨#[]⟩) := by rw [cell_of_row w6 _ 0 _ _ (0, 0) HRE6.out]; rfl
        have r1 : w6.cell? ⟨w.heap.size, 1, none⟩ = some (.string ⟨#[]⟩) := by rw [cell_of_row w6 _ 1 _ _ (0, 0) HRE6.out]; rfl
        have r2 : w6.cell? ⟨w.heap.size, 2, none⟩ = some (.string ⟨#[]⟩) := by rw [cell_of_row w6 _ 2 _ _ (0, 0) HRE6.out]; rfl
        have r3 : w6.cell? ⟨w.heap.size, 3, none⟩ = some (.slice none 0 0) := by rw [cell_of_row w6 _ 3 _ _ (0, 0) HRE6.out]; rfl
        have HF := Lib.hid (show parseL s = .inl n by
          rcases HCP.out with ⟨_, ht, _, hp⟩ | ⟨_, hp, _⟩
          · subst ht; rw [← HGO.out, goM_last hp HR0.out, H.out]
          · rw [← HGO.out, goM_next hp, H.out])
        go_wp2
        refine bodyPost_ret (parse_results _ _ w.heap.size _ _ _ _ _ _ rfl rfl rfl (row_set4 _ _ _ _ HRE6.out)) rfl ?_
        exact .inr ⟨n, HF.out, rfl, below_set4 HB6.out _ _ _ _⟩
end Go.Proofs.YtcmojpfolmcaoaaDoor
