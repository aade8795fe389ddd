/-
  Layer 16: another literal is watched: the walk of moved. Own work.
-/
import Derived.Test.YtmiiclhhenepiaaTk16
import Derived.Laws.Bits64
import Derived.BigRegion
import Derived.Deep.RegionLaw
namespace Go.Proofs.Ytmiiclhhenepiaa
set_option linter.unusedVariables false
set_option linter.unusedSimpArgs false
open Go.RowKit Go.WideElems Go.MapKept

/-- the other one of a literal -/
def ng (x : Nat) : Nat := if x % 2 = 0 then x + 1 else x - 1
theorem ng_ng (x : Nat) : ng (ng x) = x := by unfold ng; split <;> split <;> omega
theorem ng_lt {x N : Nat} (h : x < 2 * N) : ng x < 2 * N := by unfold ng; split <;> omega
theorem ng_le {x N : Nat} (h : x ≤ N) : ng x ≤ N + 1 := by unfold ng; split <;> omega
theorem xor_one16 (x : Nat) : x ^^^ 1 = ng x := by
  have h1 : (x ^^^ 1) / 2 = x / 2 := by rw [Nat.xor_div_two]; simp
  have h2 := @Nat.xor_mod_two_eq_one x 1
  unfold ng
  split
  · have : (x ^^^ 1) % 2 = 1 := h2.2 (by omega)
    omega
  · have : ¬ (x ^^^ 1) % 2 = 1 := fun h => (h2.1 h) (by omega)
    omega
theorem xor16 {x : Nat} (h : x ≤ 1000000) : bits .xor .i64 (x : Int) 1 = ((ng x : Nat) : Int) := by
  have h1 : (BitVec.ofInt 64 (x : Int)).toNat = x := by
    rw [BitVec.ofInt_natCast, BitVec.toNat_ofNat]; exact Nat.mod_eq_of_lt (by omega)
  have h2 : (BitVec.ofInt 64 (1 : Int)).toNat = 1 := by decide
  show IntKind.i64.wrap ((BitVec.ofInt 64 (x : Int) ^^^ BitVec.ofInt 64 (1 : Int)).toNat : Int) = _
  rw [BitVec.toNat_xor, h1, h2, xor_one16]
  have h3 : ng x ≤ 1000001 := ng_le h
  exact IntWalk.i64_in _ ⟨by omega, by omega⟩
theorem own_cell16 {w : World} {base : Nat} {e : TypeId} {g cap n j : Nat} {xs : List Value} {u : Value} (h : w.ownsRow base e 1 (.slice (some ⟨g, 0, none⟩) n cap) n xs) (hj : xs[j]? = some u) : w.cell? ⟨g, j, none⟩ = some u := by
  have hl := h.1
  have := (List.getElem?_eq_some_iff.1 hj).1
  rw [h.cellAt j (by omega)]
  exact hj
theorem own_form {w : World} {base : Nat} {e : TypeId} {size n : Nat} {v : Value} {xs : List Value} (h : w.ownsRow base e size v n xs) (hn : 0 < n) : ∃ g cap, v = .slice (some ⟨g, 0, none⟩) n cap ∧ n ≤ cap ∧ cap ≤ maxLen := by
  rcases h.2 with ⟨_, h0⟩ | ⟨g, cap, cur, hv, _, _, h1, h2, _⟩
  · omega
  · exact ⟨g, cap, hv, h1, h2⟩
theorem map_get {l : List Nat} {j x : Nat} (h : l[j]? = some x) : (l.map cv)[j]? = some (.int .i64 (x : Int)) := by rw [List.getElem?_map, h]; rfl
theorem split_at16 {r : List Nat} {k x : Nat} (h : r[k]? = some x) : ∃ r1 r2, r = r1 ++ x :: r2 ∧ r1.length = k := by
  have hk := (List.getElem?_eq_some_iff.1 h).1
  refine ⟨r.take k, r.drop (k + 1), ?_, by rw [List.length_take]; omega⟩
  have h2 : r.drop k = x :: r.drop (k + 1) := by
    rw [List.drop_eq_getElem_cons hk]
    rw [List.getElem?_eq_getElem hk] at h
    rw [Option.some.inj h]
  rw [← h2, List.take_append_drop]
theorem swap_list16 {a lit x k : Nat} {r1 r2 : List Nat} (h : r1.length + 2 = k) : ((a :: lit :: (r1 ++ x :: r2)).set 1 x).set k lit = a :: x :: (r1 ++ lit :: r2) := by
  subst h
  simp [List.set_append]
theorem swap_row16 {w : World} {base g cap L x y k : Nat} {c d : List Nat} (h : w.ownsRow base 3 1 (.slice (some ⟨g, 0, none⟩) L cap) L (c.map cv)) (hd : (c.set 1 x).set k y = d) :
    ((w.setCell ⟨g, 1, none⟩ (.int .i64 (x : Int))).setCell ⟨g, k, none⟩ (.int .i64 (y : Int))).ownsRow base 3 1 (.slice (some ⟨g, 0, none⟩) L cap) L (d.map cv) ∧ w.grownBy ((w.setCell ⟨g, 1, none⟩ (.int .i64 (x : Int))).setCell ⟨g, k, none⟩ (.int .i64 (y : Int))) (some g) := by
  obtain ⟨h1, h2⟩ := h.stored 1 (cv x)
  obtain ⟨h3, h4⟩ := h1.stored k (cv y)
  refine ⟨?_, h2.trans h4⟩
  rw [← hd, List.map_set, List.map_set]
  exact h3
def mvT (lit : Nat) : Tg → Prop := fun t => t = .wat ∨ (∃ n, t = .cl n) ∨ ∃ x, x ≠ lit ∧ t = .row x
def MovedP (M : Mm) (S : St) (n0 n a lit : Nat) (r : List Nat) (ex : Tg → Prop) (w : World) (e : Ending) (w' : World) : Prop :=
  (e = .returned (.bool false) ∧ w.grownBy w' none ∧ ∀ m ∈ r, S.tk (ng m) = true) ∨
  (e = .returned (.bool true) ∧ ∃ M' x r1 r2, r = r1 ++ x :: r2 ∧ S.tk (ng x) = false ∧ KS w' n0 M' { S with list := S.list.set n (a :: x :: (r1 ++ lit :: r2)), wat := putW S.wat x (S.wat x ++ [n]) } ex ∧ Frm M M' (mvT lit) w w' ∧ M'.lv = M.lv ∧ M'.vl = M.vl ∧ M'.vt = M.vt ∧ M'.rw lit = M.rw lit)
set_option maxRecDepth 100000 in
set_option maxHeartbeats 4000000 in
theorem moved_any {w : World} {n0 : Nat} {M : Mm} {S : St} {ex : Tg → Prop} (h : KS w n0 M S ex) (h1 : ¬ ex .top) (h2 : ¬ ex .tak) (h3 : ¬ ex .wat) (h4 : ¬ ex .lst) (n a lit : Nat) (r : List Nat) (hn : S.list[n]? = some (a :: lit :: r)) (h5 : ¬ ex (.cl n)) (h6 : ∀ x, x ≠ lit → ¬ ex (.row x))
    (hnd : (a :: lit :: r).Nodup) (hr : ∀ x ∈ r, x < 2 * S.vs.length) (hv : S.vs.length ≤ 100000) (hln : S.list.length ≤ 1000000) (hrl : ∀ x, x ≠ lit → (S.wat x).length ≤ 1000000) :
    Calls Try.prog 31 #[.pointer (some ⟨M.K, 0, none⟩), .int .i64 (n : Int)] w (MovedP M S n0 n a lit r ex w) := by
  have HN := Lib.hid hn
  have hnl : n < S.list.length := (List.getElem?_eq_some_iff.1 hn).1
  have HH := Lib.hid h
  obtain ⟨vc, hvc, hoc⟩ := h.cls n _ hn h5
  have HC := Lib.hid hoc
  obtain ⟨g, cap, rfl, hcap, hcm⟩ := own_form hoc (by simp)
  have hlo := h.lst h4
  obtain ⟨gl, capl, hvl, _, _⟩ := own_form hlo (by omega)
  have hc3 : w.cell? ⟨M.K, 3, none⟩ = some M.vl := h.cell h1 3
  rw [hvl] at hc3 hlo
  have hcl : w.cell? ⟨gl, n, none⟩ = some (.slice (some ⟨g, 0, none⟩) (a :: lit :: r).length cap) := own_cell16 hlo hvc
  have hnI : (n : Int) < (S.list.length : Int) := by omega
  have HVC := Lib.hid hvc
  clear hn hvc hoc h hlo hvl
  generalize hL : (a :: lit :: r).length = L at *
  have HL := Lib.hid hL
  have hcapL : L ≤ 9223372036854775807 := by unfold maxLen at hcm; omega
  clear hL hcm hcap
  go_enter Try.func31, Try.ntmps31
  go_wp2_with fail
  go_loopw [6] (fun i wr => ∃ k : Nat, 2 ≤ k ∧ k ≤ L ∧ i = .int .i64 k ∧ w.grownBy wr none ∧ ∀ m ∈ r.take (k - 2), S.tk (ng m) = true) (fun i _ => L - (intOf i).toNat)
  case atStart => exact ⟨2, by omega, by have := HL.out; simp at this; omega, rfl, World.grownBy.refl _ _, by simp⟩
  case round =>
    obtain ⟨k, hk2, hk, rfl, hg, ht⟩ := hrel
    have HT := Lib.hid ht
    have HK := Lib.hid (HH.out.keep0 hg)
    have HCr := Lib.hid (HC.out.kept hg (.inr (by simp [Value.ownBlock])))
    have HG := Lib.hid hg
    clear ht hg hc3 hcl
    by_cases hlt : k < L
    · obtain ⟨x, hx⟩ : ∃ x, r[k - 2]? = some x := ⟨_, List.getElem?_eq_getElem (by have := HL.out; simp at this; omega)⟩
      have hkI : (k : Int) < (L : Int) := by omega
      have hcx : wr.cell? ⟨g, k, none⟩ = some (.int .i64 (x : Int)) := by
        refine own_cell16 HCr.out (map_get ?_)
        rw [show k = (k - 2) + 1 + 1 by omega]
        exact hx
      have hxl := hr x (List.mem_of_getElem? hx)
      have hxor := xor16 (x := x) (by omega)
      have HX := Lib.hid hx
      have HTK := Lib.hid (isTaken_any HK.out h1 h2 (ng x) (by have := ng_lt hxl; omega))
      clear hx
      go_wp2_with fail
      refine HTK.out.mono ?_
      rintro e w2 ⟨rfl, hg2⟩
      have HG2 := Lib.hid (HG.out.trans hg2)
      have HK2 := Lib.hid (HK.out.keep0 hg2)
      have HC2 := Lib.hid (HCr.out.kept hg2 (.inr (by simp [Value.ownBlock])))
      clear hcx hg2 HCr HK HG hxor
      cases htk : S.tk (ng x) with
      | true =>
        have HTX := Lib.hid (show ∀ m ∈ r.take (k + 1 - 2), S.tk (ng m) = true from fun m hm => by
          rw [show k + 1 - 2 = k - 2 + 1 by omega, List.take_add_one, HX.out] at hm
          rcases List.mem_append.1 hm with hm | hm
          · exact HT.out m hm
          · simp at hm; rw [hm]; exact htk)
        clear htk
        go_wp2
        exact ⟨⟨k + 1, by omega, by omega, by go_num, HG2.out, HTX.out⟩, by simp [intOf]; omega⟩
      | false =>
        have hcx : w2.cell? ⟨g, k, none⟩ = some (.int .i64 (x : Int)) := by
          refine own_cell16 HC2.out (map_get ?_)
          rw [show k = (k - 2) + 1 + 1 by omega]
          exact HX.out
        have hc1 : w2.cell? ⟨g, 1, none⟩ = some (.int .i64 (lit : Int)) := own_cell16 HC2.out (map_get rfl)
        have hf1 : w2.frozen? ⟨g, 1, none⟩ = false := HC2.out.frozenAt 1
        have hfk : w2.frozen? ⟨g, k, none⟩ = false := HC2.out.frozenAt k
        have h1L : (1 : Int) < (L : Int) := by omega
        obtain ⟨r1, r2, hr12, hr1⟩ : ∃ r1 r2, r = r1 ++ x :: r2 ∧ r1.length = k - 2 := split_at16 HX.out
        have HR12 := Lib.hid hr12
        have hst := swap_row16 HC2.out (x := x) (y := lit) (k := k) (c := a :: lit :: r) (d := a :: x :: (r1 ++ lit :: r2)) (by rw [hr12]; exact swap_list16 (by omega))
        have hdl : (a :: x :: (r1 ++ lit :: r2)).length = L := by rw [← HL.out, hr12]; simp
        have HK3 := Lib.hid (show KS ((w2.setCell ⟨g, 1, none⟩ (.int .i64 (x : Int))).setCell ⟨g, k, none⟩ (.int .i64 (lit : Int))).drew n0 M { S with list := S.list.set n (a :: x :: (r1 ++ lit :: r2)) } ex from by
          have e1 := HK2.out.keep (ex' := orT ex (.cl n)) hst.2 (fun t _ hx => hx.elim .inl (fun ⟨b, hb, ht⟩ => .inr (by rw [← ht, ← Option.some.inj hb]; exact HK2.out.tc n _ g HVC.out rfl)))
          have e2 := e1.fillCl HN.out HVC.out (d := a :: x :: (r1 ++ lit :: r2)) (by rw [hdl]; exact hst.1)
          exact (e2.less (fun t ht => ht.1.elim id (fun e => absurd e ht.2))).drew)
        have HF3 := Lib.hid (show Frm M M (mvT lit) w ((w2.setCell ⟨g, 1, none⟩ (.int .i64 (x : Int))).setCell ⟨g, k, none⟩ (.int .i64 (lit : Int))).drew from by
          have e1 : Frm M M (mvT lit) w w2 := Frm.of HG2.out (fun b hb => by cases hb)
          have e2 : Frm M M (mvT lit) w2 ((w2.setCell ⟨g, 1, none⟩ (.int .i64 (x : Int))).setCell ⟨g, k, none⟩ (.int .i64 (lit : Int))) := Frm.of hst.2 (fun b hb => by rw [← Option.some.inj hb, HK2.out.tc n _ g HVC.out rfl]; exact .inr (.inl ⟨n, rfl⟩))
          exact e1.trans (e2.trans (Frm.of (row := none) ⟨rfl, rfl, rfl, Nat.le_refl _, fun _ _ _ => rfl⟩ (fun b hb => by cases hb))))
        have HC3 := Lib.hid (show ((w2.setCell ⟨g, 1, none⟩ (.int .i64 (x : Int))).setCell ⟨g, k, none⟩ (.int .i64 (lit : Int))).drew.cell? ⟨g, 1, none⟩ = some (.int .i64 (x : Int)) from own_cell16 (w := ((w2.setCell ⟨g, 1, none⟩ (.int .i64 (x : Int))).setCell ⟨g, k, none⟩ (.int .i64 (lit : Int)))) hst.1 (map_get rfl))
        have HTKF := Lib.hid htk
        clear htk hst hr12 hdl
        go_wp2_with fail
        go_region
        generalize ((w2.setCell ⟨g, 1, none⟩ (.int .i64 (x : Int))).setCell ⟨g, k, none⟩ (.int .i64 (lit : Int))).drew = w3 at HK3 HF3 HC3 ⊢
        clear hcx hc1 hf1 hfk HC2 HK2
        have HXL := Lib.hid (show x ≠ lit from fun e => by
          have := hnd
          rw [HR12.out, e] at this
          simp at this)
        have HKd := Lib.hid HK3.out.drew
        have HFd := Lib.hid (show Frm M M (mvT lit) w w3.drew from HF3.out.trans (Frm.of (row := none) ⟨rfl, rfl, rfl, Nat.le_refl _, fun _ _ _ => rfl⟩ (fun b hb => by cases hb)))
        have hq2 : w3.drew.cell? ⟨M.K, 2, none⟩ = some (.map (some M.bW)) := HKd.out.cell h1 2
        have hq1 : w3.drew.cell? ⟨g, 1, none⟩ = some (.int .i64 (x : Int)) := HC3.out
        go_upto_region 7 with fail
        refine wp_region_held_drew (S := (fun w' => w'.cell? ⟨M.K, 2, none⟩ = some (.map (some M.bW)) ∧ w'.cell? ⟨g, 1, none⟩ = some (.int .i64 (x : Int)))) (by kernel_rfl) (by (try dsimp only); exact ⟨hq2, hq1⟩) (fun hHeld => ?_)
        generalize w3.drew = wd at HKd HFd hHeld ⊢
        have HB0 := Lib.hid hHeld
        clear hq2 hq1 HK3 HF3 HC3
        refine wpAnyH_take (i := 0) (v := ?_) (by (simp only [List.getElem?_toArray, List.getElem?_cons_succ, List.getElem?_cons_zero]; rfl)) (by kernel_rfl) (by kernel_rfl) (by kernel_rfl) (by intro _ _ _ h; exact h) (Or.inl ⟨by rfl, ?_⟩) (by assumption) ?_
        rotate_left
        · (intro w hSw; (try dsimp only at hSw); go_simp; try (with_reducible rfl))
        simp only [Act.put, List.setIfInBounds_toArray, List.set_cons_zero, List.set_cons_succ]
        refine wpAnyH_take (i := 1) (v := ?_) (by (simp only [List.getElem?_toArray, List.getElem?_cons_succ, List.getElem?_cons_zero]; rfl)) (by kernel_rfl) (by kernel_rfl) (by kernel_rfl) (by intro _ _ _ h; exact h) (Or.inl ⟨by rfl, ?_⟩) (by assumption) ?_
        rotate_left
        · (intro w hSw; (try dsimp only at hSw); go_simp; try (with_reducible rfl))
        simp only [Act.put, List.setIfInBounds_toArray, List.set_cons_zero, List.set_cons_succ]
        refine wpAnyH_take (i := 2) (v := ?_) (by (simp only [List.getElem?_toArray, List.getElem?_cons_succ, List.getElem?_cons_zero]; rfl)) (by kernel_rfl) (by kernel_rfl) (by kernel_rfl) (by intro _ _ _ h; exact h) (Or.inl ⟨by rfl, ?_⟩) (by assumption) ?_
        rotate_left
        · (intro w hSw; (try dsimp only at hSw); go_simp; try (with_reducible rfl))
        simp only [Act.put, List.setIfInBounds_toArray, List.set_cons_zero, List.set_cons_succ]
        refine wpAnyH_take (i := 3) (v := ?_) (by (simp only [List.getElem?_toArray, List.getElem?_cons_succ, List.getElem?_cons_zero]; rfl)) (by kernel_rfl) (by kernel_rfl) (by kernel_rfl) (by intro _ _ _ h; exact h) (Or.inl ⟨by rfl, ?_⟩) (by assumption) ?_
        rotate_left
        · (intro w hSw; (try dsimp only at hSw); obtain ⟨q0, q1⟩ := hSw; go_simp; try (with_reducible rfl))
        simp only [Act.put, List.setIfInBounds_toArray, List.set_cons_zero, List.set_cons_succ]
        refine wpAnyH_take (i := 4) (v := ?_) (by (simp only [List.getElem?_toArray, List.getElem?_cons_succ, List.getElem?_cons_zero]; rfl)) (by kernel_rfl) (by kernel_rfl) (by kernel_rfl) (by intro _ _ _ h; exact h) (Or.inl ⟨by rfl, ?_⟩) (by assumption) ?_
        rotate_left
        · (intro w hSw; (try dsimp only at hSw); go_simp; try (with_reducible rfl))
        simp only [Act.put, List.setIfInBounds_toArray, List.set_cons_zero, List.set_cons_succ]
        refine wpAnyH_take (i := 5) (v := ?_) (by (simp only [List.getElem?_toArray, List.getElem?_cons_succ, List.getElem?_cons_zero]; rfl)) (by kernel_rfl) (by kernel_rfl) (by kernel_rfl) (by intro _ _ _ h; exact h) (Or.inl ⟨by rfl, ?_⟩) (by assumption) ?_
        rotate_left
        · (intro w hSw; (try dsimp only at hSw); go_simp; try (with_reducible rfl))
        simp only [Act.put, List.setIfInBounds_toArray, List.set_cons_zero, List.set_cons_succ]
        refine wpAnyH_take (i := 6) (v := ?_) (by (simp only [List.getElem?_toArray, List.getElem?_cons_succ, List.getElem?_cons_zero]; rfl)) (by kernel_rfl) (by kernel_rfl) (by kernel_rfl) (by intro _ _ _ h; exact h) (Or.inl ⟨by rfl, ?_⟩) (by assumption) ?_
        rotate_left
        · (intro w hSw; (try dsimp only at hSw); obtain ⟨q0, q1⟩ := hSw; go_simp; try (with_reducible rfl))
        simp only [Act.put, List.setIfInBounds_toArray, List.set_cons_zero, List.set_cons_succ]
        refine wpAnyH_take (i := 7) (v := ?_) (by (simp only [List.getElem?_toArray, List.getElem?_cons_succ, List.getElem?_cons_zero]; rfl)) (by kernel_rfl) (by kernel_rfl) (by kernel_rfl) (by intro _ _ _ h; exact h) (Or.inl ⟨by rfl, ?_⟩) (by assumption) ?_
        rotate_left
        · (intro w hSw; (try dsimp only at hSw); go_simp; try (with_reducible rfl))
        simp only [Act.put, List.setIfInBounds_toArray, List.set_cons_zero, List.set_cons_succ]
        refine wpAnyH_take (i := 8) (v := ?_) (by (simp only [List.getElem?_toArray, List.getElem?_cons_succ, List.getElem?_cons_zero]; rfl)) (by kernel_rfl) (by kernel_rfl) (by kernel_rfl) (by intro _ _ _ h; exact h) (Or.inl ⟨by rfl, ?_⟩) (by assumption) ?_
        rotate_left
        · (intro w hSw; (try dsimp only at hSw); go_simp; try (with_reducible rfl))
        simp only [Act.put, List.setIfInBounds_toArray, List.set_cons_zero, List.set_cons_succ]
        refine wpAnyH_take (i := 9) (v := ?_) (by (simp only [List.getElem?_toArray, List.getElem?_cons_succ, List.getElem?_cons_zero]; rfl)) (by kernel_rfl) (by kernel_rfl) (by kernel_rfl) (by intro _ _ _ h; exact h) (Or.inl ⟨by rfl, ?_⟩) (by assumption) ?_
        rotate_left
        · (intro w hSw; (try dsimp only at hSw); go_simp; try (with_reducible rfl))
        simp only [Act.put, List.setIfInBounds_toArray, List.set_cons_zero, List.set_cons_succ]
        refine wpAnyH_take (i := 10) (v := ?_) (by (simp only [List.getElem?_toArray, List.getElem?_cons_succ, List.getElem?_cons_zero]; rfl)) (by kernel_rfl) (by kernel_rfl) (by kernel_rfl) (by intro _ _ _ h; exact h) (Or.inl ⟨by rfl, ?_⟩) (by assumption) ?_
        rotate_left
        · (intro w hSw; (try dsimp only at hSw); obtain ⟨q0, q1⟩ := hSw; go_simp; try (with_reducible rfl))
        simp only [Act.put, List.setIfInBounds_toArray, List.set_cons_zero, List.set_cons_succ]
        refine wpAnyH_take (i := 11) (v := ?_) (by (simp only [List.getElem?_toArray, List.getElem?_cons_succ, List.getElem?_cons_zero]; rfl)) (by kernel_rfl) (by kernel_rfl) (by kernel_rfl) (by intro _ _ _ h; exact h) (Or.inl ⟨by rfl, ?_⟩) (by assumption) ?_
        rotate_left
        · (intro w hSw; (try dsimp only at hSw); go_simp; try (with_reducible rfl))
        simp only [Act.put, List.setIfInBounds_toArray, List.set_cons_zero, List.set_cons_succ]
        refine wpAnyH_take (i := 12) (v := ?_) (by (simp only [List.getElem?_toArray, List.getElem?_cons_succ, List.getElem?_cons_zero]; rfl)) (by kernel_rfl) (by kernel_rfl) (by kernel_rfl) (by intro _ _ _ h; exact h) (Or.inl ⟨by rfl, ?_⟩) (by assumption) ?_
        rotate_left
        · (intro w hSw; (try dsimp only at hSw); go_simp; try (with_reducible rfl))
        simp only [Act.put, List.setIfInBounds_toArray, List.set_cons_zero, List.set_cons_succ]
        refine wpAnyH_take (i := 13) (v := ?_) (by (simp only [List.getElem?_toArray, List.getElem?_cons_succ, List.getElem?_cons_zero]; rfl)) (by kernel_rfl) (by kernel_rfl) (by kernel_rfl) (by intro _ _ _ h; exact h) (Or.inl ⟨by rfl, ?_⟩) (by assumption) ?_
        rotate_left
        · (intro w hSw; (try dsimp only at hSw); obtain ⟨q0, q1⟩ := hSw; go_simp; try (with_reducible rfl))
        simp only [Act.put, List.setIfInBounds_toArray, List.set_cons_zero, List.set_cons_succ]
        refine wpAnyH_take (i := 15) (v := ?_) (by (simp only [List.getElem?_toArray, List.getElem?_cons_succ, List.getElem?_cons_zero]; rfl)) (by kernel_rfl) (by kernel_rfl) (by kernel_rfl) (by intro _ _ _ h; exact h) (Or.inl ⟨by rfl, ?_⟩) (by assumption) ?_
        rotate_left
        · (intro w hSw; (try dsimp only at hSw); go_simp; try (with_reducible rfl))
        simp only [Act.put, List.setIfInBounds_toArray, List.set_cons_zero, List.set_cons_succ]
        have hlk := (HKd.out.wat h3).look (v := x) (by omega)
        have hga : wd.grownBy (wd.alloc (.cells #[.int .i64 (n : Int)] 3)) none := World.grownBy_alloc _ _ _
        have HGA := Lib.hid hga
        have hlk2 := ((HKd.out.keep0 hga).wat h3).look (v := x) (by omega)
        have HSA := Lib.hid (show (wd.alloc (.cells #[.int .i64 (n : Int)] 3)).cell? ⟨M.K, 2, none⟩ = some (.map (some M.bW)) ∧ (wd.alloc (.cells #[.int .i64 (n : Int)] 3)).cell? ⟨g, 1, none⟩ = some (.int .i64 (x : Int)) from ⟨HGA.out.cell HB0.out.1 (by simp), HGA.out.cell HB0.out.2 (by simp)⟩)
        clear hga
        refine wpAnyH_ready (rs := [14, 16]) (by kernel_rfl) (by simp) ?_
        refine AllReadyH.cons (by (simp only [List.getElem?_toArray, List.getElem?_cons_succ, List.getElem?_cons_zero]; rfl)) (fun K hK => ?_) (AllReadyH.cons (by (simp only [List.getElem?_toArray, List.getElem?_cons_succ, List.getElem?_cons_zero]; rfl)) (fun K hK => ?_) AllReadyH.nil)
        · go_simp
          refine hK.out _ _ (by (try dsimp only); exact HB0.out) (fun hHeld => ?_)
          clear hK K
          try simp only [Act.put, List.setIfInBounds_toArray, List.set_cons_zero, List.set_cons_succ]
          refine wpAnyH_ready (rs := [16]) (by kernel_rfl) (by simp) ?_
          refine AllReadyH.cons (by (simp only [List.getElem?_toArray, List.getElem?_cons_succ, List.getElem?_cons_zero]; rfl)) (fun K hK => ?_) AllReadyH.nil
          go_simp
          refine hK.out _ _ (by (try dsimp only); exact HSA.out) (fun hHeld => ?_)
          clear hK K
          try simp only [Act.put, List.setIfInBounds_toArray, List.set_cons_zero, List.set_cons_succ]
          clear hlk hlk2
          refine wpAnyH_ready (rs := [17]) (by kernel_rfl) (by simp) ?_
          refine AllReadyH.cons (by (simp only [List.getElem?_toArray, List.getElem?_cons_succ, List.getElem?_cons_zero]; rfl)) (fun K hK => ?_) AllReadyH.nil
          refine step_appI rfl (.tmp 54) (.tmp 56) rfl wd n (v := M.rw x) rfl rfl (HKd.out.row x (h6 x HXL.out)) (hrl x HXL.out) HKd.out.base ?_
          intro g5 cap5 w5 ho5 hg5 hat5
          obtain ⟨f, hk5, hf1, hf2, hf3⟩ := HKd.out.grow (v' := .slice (some ⟨g5, 0, none⟩) ((S.wat x).length + 1) cap5) (t := .row x) (by simp) hg5 (HKd.out.tr x) (hat5.elim (fun e => .inl e.symm) (fun e => .inr ⟨g5, rfl, e⟩))
          have HK5 := Lib.hid hk5
          have HS5 := Lib.hid (show w5.cell? ⟨M.K, 2, none⟩ = some (.map (some M.bW)) ∧ w5.cell? ⟨g, 1, none⟩ = some (.int .i64 (x : Int)) from ⟨hk5.cell (fun e => e.elim h1 (by simp)) 2, hg5.cell HB0.out.2 (fun e => by have e1 := HKd.out.tr x _ e.symm; have e2 := HKd.out.tc n _ g HVC.out rfl; rw [e2] at e1; cases e1)⟩)
          have hor : ∀ t, t ≠ .row x → ¬ ex t → ¬ orT ex (.row x) t := fun t h0 h1 h2 => h2.elim h1 h0
          obtain ⟨w6, hu, hs6, hg6⟩ := (HK5.out.wat (hor _ (by simp) h3)).put (v := x) (u := .slice (some ⟨g5, 0, none⟩) ((S.wat x).length + 1) cap5) (by omega) (by simp only; omega) (.inr ⟨_, _, _, rfl⟩)
          have hk6 := HK5.out.keep (ex' := orT (orT ex (.row x)) .wat) hg6 (fun t _ hx => hx.elim .inl (fun ⟨b, hb, ht⟩ => .inr (by rw [← ht, ← Option.some.inj hb]; exact HK5.out.tW)))
          have HK6 := Lib.hid (hk6.fillWat (x := x) (l := S.wat x ++ [n]) (v := .slice (some ⟨g5, 0, none⟩) ((S.wat x).length + 1) cap5) hs6 (by rw [List.length_append, List.map_append]; exact ho5.kept hg6 (.inr (fun e => by have e1 := hf1 _ rfl; have e2 := HK5.out.tW; rw [show g5 = M.bW from Option.some.inj e] at e1; exact absurd (e1.symm.trans e2) (by simp)))) hf1)
          have HF5 := Lib.hid (show Frm M { M with tag := f } (mvT lit) wd w5 from ⟨hg5.os, hg5.tape, hg5.output, hg5.size, fun b hb hn => hg5.block b hb (fun e => hn (by rw [HKd.out.tr x b e.symm]; exact .inr (.inr ⟨x, HXL.out, rfl⟩))), hf2, rfl, rfl, rfl, rfl⟩)
          have HF6 := Lib.hid (show Frm { M with tag := f } { M with tag := f, rw := putR M.rw x (.slice (some ⟨g5, 0, none⟩) ((S.wat x).length + 1) cap5) } (mvT lit) w5 w6 from ⟨hg6.os, hg6.tape, hg6.output, hg6.size, fun b hb hn => hg6.block b hb (fun e => hn (by rw [Option.some.inj e]; exact .inl HK5.out.tW)), fun _ _ => rfl, rfl, rfl, rfl, rfl⟩)
          have HS6 := Lib.hid (show w6.cell? ⟨M.K, 2, none⟩ = some (.map (some M.bW)) ∧ w6.cell? ⟨g, 1, none⟩ = some (.int .i64 (x : Int)) from ⟨hk6.cell (fun e => e.elim (hor _ (by simp) h1) (by simp)) 2, hg6.cell HS5.out.2 (fun e => by have e1 := HK5.out.tW; have e2 := HK5.out.tc n _ g HVC.out rfl; rw [show g = M.bW from Option.some.inj e] at e2; exact absurd (e1.symm.trans e2) (by simp))⟩)
          clear ho5 hg5 hat5 hk5 hf1 hf2 hf3 hs6 hg6 hk6 HB0 hHeld
          refine hK.out _ _ (by (try dsimp only); exact HS5.out) (fun hHeld => ?_)
          clear hK K
          try simp only [Act.put, List.setIfInBounds_toArray, List.set_cons_zero, List.set_cons_succ]
          refine wpAnyH_ready (rs := [18]) (by kernel_rfl) (by simp) ?_
          refine AllReadyH.cons (by (simp only [List.getElem?_toArray, List.getElem?_cons_succ, List.getElem?_cons_zero]; rfl)) (fun K hK => ?_) AllReadyH.nil
          go_simp
          refine hK.out _ _ (by (try dsimp only); exact HS6.out) (fun hHeld2 => ?_)
          clear hK K
          try simp only [Act.put, List.setIfInBounds_toArray, List.set_cons_zero, List.set_cons_succ]
          refine wpAnyH_done (by kernel_rfl) ?_ _
          go_wp2
          go_ret
          exact .inr ⟨rfl, _, x, r1, r2, HR12.out, HTKF.out, HK6.out.less (fun t ht => ht.1.1.elim (fun h => h.elim id (fun e => absurd e ht.2)) (fun e => absurd e ht.1.2)), HFd.out.trans (HF5.out.trans HF6.out), rfl, rfl, rfl, by show putR M.rw x _ lit = _; unfold putR; rw [if_neg HXL.out]⟩
        · go_simp
          refine hK.out _ _ (by (try dsimp only); exact HSA.out) (fun hHeld => ?_)
          clear hK K
          try simp only [Act.put, List.setIfInBounds_toArray, List.set_cons_zero, List.set_cons_succ]
          refine wpAnyH_ready (rs := [14]) (by kernel_rfl) (by simp) ?_
          refine AllReadyH.cons (by (simp only [List.getElem?_toArray, List.getElem?_cons_succ, List.getElem?_cons_zero]; rfl)) (fun K hK => ?_) AllReadyH.nil
          go_simp
          refine hK.out _ _ (by (try dsimp only); exact HSA.out) (fun hHeld => ?_)
          clear hK K
          try simp only [Act.put, List.setIfInBounds_toArray, List.set_cons_zero, List.set_cons_succ]
          clear hlk hlk2
          refine wpAnyH_ready (rs := [17]) (by kernel_rfl) (by simp) ?_
          refine AllReadyH.cons (by (simp only [List.getElem?_toArray, List.getElem?_cons_succ, List.getElem?_cons_zero]; rfl)) (fun K hK => ?_) AllReadyH.nil
          refine step_appI rfl (.tmp 54) (.tmp 56) rfl wd n (v := M.rw x) rfl rfl (HKd.out.row x (h6 x HXL.out)) (hrl x HXL.out) HKd.out.base ?_
          intro g5 cap5 w5 ho5 hg5 hat5
          obtain ⟨f, hk5, hf1, hf2, hf3⟩ := HKd.out.grow (v' := .slice (some ⟨g5, 0, none⟩) ((S.wat x).length + 1) cap5) (t := .row x) (by simp) hg5 (HKd.out.tr x) (hat5.elim (fun e => .inl e.symm) (fun e => .inr ⟨g5, rfl, e⟩))
          have HK5 := Lib.hid hk5
          have HS5 := Lib.hid (show w5.cell? ⟨M.K, 2, none⟩ = some (.map (some M.bW)) ∧ w5.cell? ⟨g, 1, none⟩ = some (.int .i64 (x : Int)) from ⟨hk5.cell (fun e => e.elim h1 (by simp)) 2, hg5.cell HB0.out.2 (fun e => by have e1 := HKd.out.tr x _ e.symm; have e2 := HKd.out.tc n _ g HVC.out rfl; rw [e2] at e1; cases e1)⟩)
          have hor : ∀ t, t ≠ .row x → ¬ ex t → ¬ orT ex (.row x) t := fun t h0 h1 h2 => h2.elim h1 h0
          obtain ⟨w6, hu, hs6, hg6⟩ := (HK5.out.wat (hor _ (by simp) h3)).put (v := x) (u := .slice (some ⟨g5, 0, none⟩) ((S.wat x).length + 1) cap5) (by omega) (by simp only; omega) (.inr ⟨_, _, _, rfl⟩)
          have hk6 := HK5.out.keep (ex' := orT (orT ex (.row x)) .wat) hg6 (fun t _ hx => hx.elim .inl (fun ⟨b, hb, ht⟩ => .inr (by rw [← ht, ← Option.some.inj hb]; exact HK5.out.tW)))
          have HK6 := Lib.hid (hk6.fillWat (x := x) (l := S.wat x ++ [n]) (v := .slice (some ⟨g5, 0, none⟩) ((S.wat x).length + 1) cap5) hs6 (by rw [List.length_append, List.map_append]; exact ho5.kept hg6 (.inr (fun e => by have e1 := hf1 _ rfl; have e2 := HK5.out.tW; rw [show g5 = M.bW from Option.some.inj e] at e1; exact absurd (e1.symm.trans e2) (by simp)))) hf1)
          have HF5 := Lib.hid (show Frm M { M with tag := f } (mvT lit) wd w5 from ⟨hg5.os, hg5.tape, hg5.output, hg5.size, fun b hb hn => hg5.block b hb (fun e => hn (by rw [HKd.out.tr x b e.symm]; exact .inr (.inr ⟨x, HXL.out, rfl⟩))), hf2, rfl, rfl, rfl, rfl⟩)
          have HF6 := Lib.hid (show Frm { M with tag := f } { M with tag := f, rw := putR M.rw x (.slice (some ⟨g5, 0, none⟩) ((S.wat x).length + 1) cap5) } (mvT lit) w5 w6 from ⟨hg6.os, hg6.tape, hg6.output, hg6.size, fun b hb hn => hg6.block b hb (fun e => hn (by rw [Option.some.inj e]; exact .inl HK5.out.tW)), fun _ _ => rfl, rfl, rfl, rfl, rfl⟩)
          have HS6 := Lib.hid (show w6.cell? ⟨M.K, 2, none⟩ = some (.map (some M.bW)) ∧ w6.cell? ⟨g, 1, none⟩ = some (.int .i64 (x : Int)) from ⟨hk6.cell (fun e => e.elim (hor _ (by simp) h1) (by simp)) 2, hg6.cell HS5.out.2 (fun e => by have e1 := HK5.out.tW; have e2 := HK5.out.tc n _ g HVC.out rfl; rw [show g = M.bW from Option.some.inj e] at e2; exact absurd (e1.symm.trans e2) (by simp))⟩)
          clear ho5 hg5 hat5 hk5 hf1 hf2 hf3 hs6 hg6 hk6 HB0 hHeld
          refine hK.out _ _ (by (try dsimp only); exact HS5.out) (fun hHeld => ?_)
          clear hK K
          try simp only [Act.put, List.setIfInBounds_toArray, List.set_cons_zero, List.set_cons_succ]
          refine wpAnyH_ready (rs := [18]) (by kernel_rfl) (by simp) ?_
          refine AllReadyH.cons (by (simp only [List.getElem?_toArray, List.getElem?_cons_succ, List.getElem?_cons_zero]; rfl)) (fun K hK => ?_) AllReadyH.nil
          go_simp
          refine hK.out _ _ (by (try dsimp only); exact HS6.out) (fun hHeld2 => ?_)
          clear hK K
          try simp only [Act.put, List.setIfInBounds_toArray, List.set_cons_zero, List.set_cons_succ]
          refine wpAnyH_done (by kernel_rfl) ?_ _
          go_wp2
          go_ret
          exact .inr ⟨rfl, _, x, r1, r2, HR12.out, HTKF.out, HK6.out.less (fun t ht => ht.1.1.elim (fun h => h.elim id (fun e => absurd e ht.2)) (fun e => absurd e ht.1.2)), HFd.out.trans (HF5.out.trans HF6.out), rfl, rfl, rfl, by show putR M.rw x _ lit = _; unfold putR; rw [if_neg HXL.out]⟩
    · have hkI : (L : Int) ≤ (k : Int) := by omega
      have HR := Lib.hid (show ∀ m ∈ r, S.tk (ng m) = true from fun m hm => HT.out m (by rw [List.take_of_length_le (by have := HL.out; simp at this; omega)]; exact hm))
      go_wp2
      go_ret
      exact .inl ⟨rfl, HG.out, HR.out⟩
end Go.Proofs.Ytmiiclhhenepiaa
