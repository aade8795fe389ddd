/-
  Layer 21: the statement WeighClauses: the clauses of any literals and numbers. For every input, with no condition. Own work.
-/
import Derived.Test.YtfgoalgfpcalgaaMostAll
import Derived.Test.YtfgoalgfpcalgaaSame
import Derived.Test.YtfgoalgfpcalgaaLaws21a
namespace Go.Proofs.Ytfgoalgfpcalgaa
set_option linter.unusedVariables false
set_option linter.unusedSimpArgs false
open Go.ChangeShapes Go.WideShapes Go.ChangeAt Go.RowKit

/-- the clauses of any literals and any k -/
def clsL (x : List Int) (k next : Int) : List (List Int) := if k < 0 then [[]] else if x.length ≤ k then [] else if k = 0 then none0 x else most x k next
def aft (x : List Int) (k next : Int) : Int := if k ≤ 0 ∨ x.length ≤ k then next else sv next k (x.length : Int) 1
theorem AtMost_any (lv : Value) (x : List Int) (k next : Int) (hx60 : x.length ≤ 60) (hx : ∀ (j : Nat) (n : Int), x[j]? = some n → -1000000 ≤ n ∧ n ≤ 1000000) (hn0 : 0 ≤ next) (hn1 : next ≤ 200000) (w : World) (hl : SlOf w iV lv x) :
    Calls Try.prog 8 #[lv, .int .i64 k, .int .i64 next] w (AmP (clsL x k next) (aft x k next) w) := by
  unfold clsL aft
  by_cases h1 : k < 0
  · rw [if_pos h1, if_pos (by omega)]; exact most_neg lv x k next h1 w hl
  rw [if_neg h1]
  by_cases h2 : (x.length : Int) ≤ k
  · rw [if_pos h2, if_pos (by omega)]; exact most_ge lv x k next (by omega) h2 w hl
  rw [if_neg h2]
  by_cases h3 : k = 0
  · subst h3
    rw [if_pos rfl, if_pos (by omega)]; exact AtMost_zero lv x next (by omega) hx60 hx hn0 hn1 w hl
  rw [if_neg h3, if_neg (by omega)]
  exact AtMost_main lv x k next (by omega) (by omega) hx60 hx hn0 hn1 w hl
theorem refAtMost_any (lv : Value) (x : List Int) (k next : Int) (hx60 : x.length ≤ 60) (hx : ∀ (j : Nat) (n : Int), x[j]? = some n → -1000000 ≤ n ∧ n ≤ 1000000) (hn0 : 0 ≤ next) (hn1 : next ≤ 200000) (w : World) (hl : SlOf w iV lv x) :
    Calls Try.prog 9 #[lv, .int .i64 k, .int .i64 next] w (AmP (clsL x k next) (aft x k next) w) := by
  unfold clsL aft
  by_cases h1 : k < 0
  · rw [if_pos h1, if_pos (by omega)]; exact ref_neg lv x k next h1 w hl
  rw [if_neg h1]
  by_cases h2 : (x.length : Int) ≤ k
  · rw [if_pos h2, if_pos (by omega)]; exact ref_ge lv x k next (by omega) h2 w hl
  rw [if_neg h2]
  by_cases h3 : k = 0
  · subst h3
    rw [if_pos rfl, if_pos (by omega)]; exact ref_zero lv x 0 next (by omega) (by omega) rfl (by omega) hx60 hx w hl
  rw [if_neg h3, if_neg (by omega)]
  exact ref_main lv x k next (by omega) (by omega) hx60 hx hn0 hn1 w hl
theorem clsL_len (x : List Int) (k next : Int) (hx : x.length ≤ 60) : (clsL x k next).length ≤ 1000000 := by
  unfold clsL
  split
  · simp
  split
  · simp
  split
  · rw [none0_len]; omega
  · unfold most
    simp only [List.length_append, r1_len, r2_len, List.length_cons, List.length_nil]
    have h1 : (k - 1).toNat ≤ 60 := by omega
    have h2 : (x.length - 2) * (3 + 2 * (k - 1).toNat) ≤ 60 * 123 := Nat.mul_le_mul (by omega) (by omega)
    omega
theorem clsL_row (x : List Int) (k next : Int) (hx : x.length ≤ 60) : ∀ (j : Nat) c, (clsL x k next)[j]? = some c → c.length ≤ 1000000 := by
  intro j c hj
  have hm := List.mem_of_getElem? hj
  have hr2 : ∀ m, ∀ c ∈ r2 x next k m, c.length ≤ 3 := by
    intro m c hc
    unfold r2 blk rin at hc
    simp only [List.mem_flatMap, List.mem_append, List.mem_cons, List.not_mem_nil, or_false, List.mem_range] at hc
    obtain ⟨_, _, h⟩ := hc
    rcases h with ((rfl | rfl) | ⟨_, _, rfl | rfl⟩) | rfl <;> simp
  have hall : c.length ≤ 3 := by
    unfold clsL at hm
    split at hm
    · simp at hm; simp [hm]
    split at hm
    · simp at hm
    split at hm
    · unfold none0 at hm
      obtain ⟨n, _, rfl⟩ := List.mem_map.1 hm
      simp
    · unfold most r1 at hm
      simp only [List.mem_append, List.mem_cons, List.not_mem_nil, or_false, List.mem_map] at hm
      rcases hm with ((rfl | ⟨_, _, rfl⟩) | h) | rfl
      · simp
      · simp
      · exact hr2 _ _ h
      · simp
  omega
/-- the other literals -/
def notL (x : List Int) : List Int := x.map fun n => -n
theorem notL_snoc (x : List Int) (k : Nat) (n : Int) (h : x[k]? = some n) : notL (x.take (k + 1)) = notL (x.take k) ++ [-n] := by
  unfold notL
  rw [take_snoc _ k n h, List.map_append]; rfl
theorem notL_len (x : List Int) : (notL x).length = x.length := by unfold notL; simp
theorem notL_bd (x : List Int) (hx : ∀ (j : Nat) (n : Int), x[j]? = some n → -1000 ≤ n ∧ n ≤ 1000 ∧ n ≠ 0) : ∀ (j : Nat) (n : Int), (notL x)[j]? = some n → -1000000 ≤ n ∧ n ≤ 1000000 := by
  intro j n h
  unfold notL at h
  rw [List.getElem?_map] at h
  cases hq : x[j]? with
  | none => rw [hq] at h; simp at h
  | some q =>
    rw [hq] at h
    simp only [Option.map_some, Option.some.injEq] at h
    have := hx j q hq
    omega
def notV (x : List Int) (k : Nat) : List Value := (notL (x.take k)).map iV
theorem notV_snoc (x : List Int) (k : Nat) (n : Int) (h : x[k]? = some n) : notV x (k + 1) = notV x k ++ [.int .i64 (-n)] := by
  unfold notV
  rw [notL_snoc x k n h, List.map_append]; rfl
/-- a loop that gathers the other literals: what it keeps -/
def NotRel (x : List Int) (w wr : World) (v i : Value) : Prop :=
  ∃ (k : Nat) (u : Value), u = v ∧ k ≤ x.length ∧ i = .int .i64 k ∧ wr.ownsRow w.heap.size 3 1 u k (notV x k) ∧ Below w.heap.size w wr
theorem not_done {x : List Int} {w wr : World} {v : Value} (ho : wr.ownsRow w.heap.size 3 1 v x.length (notV x x.length)) : SlOf wr iV v (notL x) := by
  have h := SlOf.of_own (f := iV) (xs := notL x) (w := wr) (v := v) (base := w.heap.size) (e := 3) (by rw [notL_len]; unfold notV at ho; rw [List.take_length] at ho; exact ho)
  exact h
theorem cls_same (x : List Int) (k next : Int) : clsL x ((x.length : Int) - max k 0) next = clsL x ((x.length : Int) - k) next ∧ aft x ((x.length : Int) - max k 0) next = aft x ((x.length : Int) - k) next := by
  by_cases h : k < 0
  · have h1 : max k 0 = 0 := by omega
    rw [h1]
    unfold clsL aft
    rw [if_neg (by omega), if_pos (by omega), if_neg (by omega), if_pos (by omega), if_pos (by omega), if_pos (by omega)]
    exact ⟨rfl, rfl⟩
  · have h1 : max k 0 = k := by omega
    rw [h1]
    exact ⟨rfl, rfl⟩
set_option maxHeartbeats 2000000 in
theorem Least_any (xv : Value) (x : List Int) (k next : Int) (hx60 : x.length ≤ 60) (hbd : ∀ (j : Nat) (n : Int), x[j]? = some n → -1000 ≤ n ∧ n ≤ 1000 ∧ n ≠ 0) (hk : -3 ≤ k) (hk2 : k ≤ 50) (hn0 : 0 ≤ next) (hn1 : next ≤ 200000) (w : World) (hx : SlOf w iV xv x) :
    Calls Try.prog 11 #[xv, .int .i64 k, .int .i64 next] w (AmP (clsL (notL x) ((x.length : Int) - max k 0) next) (aft (notL x) ((x.length : Int) - max k 0) next) w) := by
  obtain ⟨xa, xcap, rfl, hx1, hx2, hxc⟩ := hx
  have HXC := Lib.hid hxc; clear hxc
  have HBD := Lib.hid hbd; clear hbd
  have hxb : (x.length : Int) ≤ 60 := by omega
  obtain ⟨i0, hi, hz0, hz1, hz2⟩ := info_parts int_info
  generalize hmx : max k 0 = mx
  have hmx0 : 0 ≤ mx := by omega
  have hmx1 : mx ≤ 50 := by omega
  go_enter Try.func11, Try.ntmps11
  go_wp2_with (at_make; refine wpList_make_own _ rfl _ _ 22 rfl w.heap.size 3 i0 (.int .i64 0) 1 Try.underlying22 hi hz0 hz1 .i64 .i64 _ x.length rfl rfl rfl (by rw [hz2]; omega) (by unfold maxLen; omega) (Nat.le_refl _) ?_; intro w0 hown0 hgrow0)
  have hb0 : Below w.heap.size w w0 := (Below.refl _ _).grown hgrow0 (Nat.le_refl _) (fun k h => by cases h)
  clear hgrow0
  go_loopw [8, 16] (fun v i wr => NotRel x w wr v i) (fun _ i _ => x.length - (intOf i).toNat)
  case atStart => exact ⟨0, _, rfl, by omega, rfl, hown0, hb0⟩
  case round =>
    obtain ⟨q, v, rfl, hq, rfl, hown, hb⟩ := hrel
    by_cases hlt : q < x.length
    · obtain ⟨n, hn⟩ : ∃ n, x[q]? = some n := ⟨_, List.getElem?_eq_getElem hlt⟩
      obtain ⟨b, off, rfl, hbl, hci⟩ := HXC.out q n hn
      unfold iV at hci
      obtain ⟨n1, n2, n3⟩ := HBD.out q n hn
      have hcw := (hb.cell (p := ⟨b, off + q, none⟩) hbl).trans hci
      have HS := Lib.hid (notV_snoc x q n hn)
      clear hn hci n3
      go_wp2_with (at_builtin
                   refine app1 rfl _ _ 22 3 rfl (.int .i64 0) 8 w.heap.size q Try.underlying22 int_info rfl v _ rfl hown rfl rfl (by omega) (by omega) hb.size ?_)
      intro v' w' ho' hg' hb'
      go_wp2
      go_roundw
      case rel => exact ⟨q + 1, _, rfl, by omega, by go_num, by rw [HS.out]; exact ho', hb.trans hb'⟩
      case measure => simp [intOf]; omega
    · have hql : q = x.length := by omega
      subst hql
      have hs := not_done hown
      have hc := AtMost_any v (notL x) ((x.length : Int) - mx) next (by rw [notL_len]; omega) (notL_bd x HBD.out) hn0 hn1 wr hs
      have HCC := Lib.hid hc
      clear hc hown hs
      have HB := Lib.hid hb; clear hb
      have hbz := HB.out.size
      by_cases hk0 : 0 ≤ k
      · have hmk : mx = k := by omega
        subst hmk
        have HM := Lib.hid hmx; clear hmx
        go_wp2_with fail
        refine HCC.out.mono ?_
        rintro e w2 ⟨v2, rfl, hr, hb2⟩
        go_wp2
        go_ret2
        exact ⟨_, rfl, hr.lo hbz, HB.out.trans (hb2.mono hbz)⟩
      · have hmk : mx = 0 := by omega
        subst hmk
        have HM := Lib.hid hmx; clear hmx
        have hk1 : k ≤ 0 := by omega
        rw [Int.sub_zero] at HCC ⊢
        go_wp2_with fail
        refine HCC.out.mono ?_
        rintro e w2 ⟨v2, rfl, hr, hb2⟩
        go_wp2
        go_ret2
        exact ⟨_, rfl, hr.lo hbz, HB.out.trans (hb2.mono hbz)⟩
theorem RowsAt.below {w w' : World} {lo : Nat} {v : Value} {cs : List (List Int)} (h : RowsAt w lo v cs) (hb : Below w.heap.size w w') : RowsAt w' lo v cs := by
  obtain ⟨rows, h1, h2⟩ := h
  have hg : w.grownBy w' none := ⟨hb.os, hb.tape, hb.output, hb.size, fun k hk _ => hb.block k hk⟩
  refine ⟨rows, h1.kept hg (by cases hv : v.ownBlock <;> simp), fun j c hj => ?_⟩
  obtain ⟨r, a, b⟩ := h2 j c hj
  exact ⟨r, a, b.keep fun b0 cur hb0 => hb.block b0 (Array.getElem?_eq_some_iff.1 hb0).1⟩
theorem big_bd {x : List Int} (hx : ∀ (j : Nat) (n : Int), x[j]? = some n → -1000 ≤ n ∧ n ≤ 1000 ∧ n ≠ 0) : ∀ (j : Nat) (n : Int), x[j]? = some n → -1000000 ≤ n ∧ n ≤ 1000000 := fun j n h => by
  have := hx j n h
  omega
set_option maxRecDepth 100000 in
set_option maxHeartbeats 4000000 in
theorem clauses_at (lv : Value) (l : List Int) (k K next : Int) (hK : (k < -3 ∧ K = -3) ∨ (50 < k ∧ K = 50) ∨ (-3 ≤ k ∧ k ≤ 50 ∧ K = k)) (w : World) (hl : Reads w iV lv l) (hwf : ∀ n ∈ l, -9223372036854775808 ≤ n ∧ n ≤ 9223372036854775807) (hk : -9223372036854775808 ≤ k ∧ k ≤ 9223372036854775807) (hn : 0 ≤ next ∧ next ≤ 18446744073709551615) :
    Calls Try.prog 3 #[lv, .int .i64 k, .int .u64 next] w fun e w' => e = .returned (.bool true) ∧ Below w.heap.size w w' := by
  have h1 := own_any lv l 40 (by omega) w hl hwf
  have H1 := Lib.hid h1; clear h1 hwf hl
  obtain ⟨hk1, hk2⟩ := hk
  obtain ⟨hn1, hn2⟩ := hn
  have hbd0 := ownL_bd l 40
  have hlen0 := ownL_len l 40
  unfold OwnPost at H1
  generalize ownL l 40 = xs at hbd0 hlen0 H1
  have HBD := Lib.hid hbd0; clear hbd0
  have hxb : (xs.length : Int) ≤ 40 := by omega
  have hm0 : 0 ≤ next % 100000 := by omega
  have hm1 : next % 100000 ≤ 99999 := by omega
  rcases hK with ⟨h, rfl⟩ | ⟨h, rfl⟩ | ⟨h, h', rfl⟩
  all_goals
    go_enter Try.func3, Try.ntmps3
    go_wp2_with fail
    refine H1.out.mono ?_
    rintro e w1 ⟨v, rfl, hs, hb⟩
    have HS := Lib.hid hs
    have HB := Lib.hid hb; clear hb
    obtain ⟨xa, xcap, rfl, hx1, hx2, hxc⟩ := hs
    clear hxc
    go_wp2_with fail
    all_goals first | (exfalso; omega) | skip
    all_goals
      refine (AtMost_any _ xs _ _ (by omega) (big_bd HBD.out) (by omega) (by omega) _ HS.out).mono ?_
      rintro e w2 ⟨v1, rfl, hr1, hb1⟩
      have HR1 := Lib.hid hr1; clear hr1
      have HB1 := Lib.hid hb1; clear hb1
      go_wp2_with fail
      refine (refAtMost_any _ xs _ _ (by omega) (big_bd HBD.out) (by omega) (by omega) _ (HS.out.below HB1.out (Nat.le_refl _))).mono ?_
      rintro e w3 ⟨v2, rfl, hr2, hb2⟩
      have HR2 := Lib.hid hr2; clear hr2
      have HB2 := Lib.hid hb2; clear hb2
      go_wp2_with fail
      refine (same_any _ _ _ _ _ _ (HR1.out.below HB2.out) HR2.out (clsL_len _ _ _ (by omega)) (clsL_row _ _ _ (by omega))).mono ?_
      rintro e w4 ⟨rfl, hb3⟩
      have HB3 := Lib.hid hb3; clear hb3
      have HBC := Lib.hid (HB1.out.trans ((HB2.out.mono HB1.out.size).trans (HB3.out.mono (Nat.le_trans HB1.out.size HB2.out.size))))
      have HS4 := Lib.hid (HS.out.below HBC.out (Nat.le_refl _))
      go_wp2_with fail
      go_loopw [13, 54] (fun v i wr => NotRel xs w4 wr v i) (fun _ i _ => xs.length - (intOf i).toNat)
      case atStart => exact ⟨0, _, rfl, by omega, rfl, World.ownsRow_nil _ _ _ _, Below.refl _ _⟩
      case round =>
        obtain ⟨q, vn, rfl, hq, rfl, hown, hbw⟩ := hrel
        by_cases hlt : q < xs.length
        · obtain ⟨n, hn⟩ : ∃ n, xs[q]? = some n := ⟨_, List.getElem?_eq_getElem hlt⟩
          obtain ⟨_, _, hv4, _, _, hxc4⟩ := HS4.out
          cases hv4
          obtain ⟨b, off, rfl, hbl, hci⟩ := hxc4 q n hn
          unfold iV at hci
          obtain ⟨n1, n2, n3⟩ := HBD.out q n hn
          have hcw := (hbw.cell (p := ⟨b, off + q, none⟩) hbl).trans hci
          have HSN := Lib.hid (notV_snoc xs q n hn)
          clear hn hci n3 hxc4
          go_wp2_with (at_builtin
                       refine app1 rfl _ _ 22 3 rfl (.int .i64 0) 8 w4.heap.size q Try.underlying22 int_info rfl vn _ rfl hown rfl rfl (by omega) (by omega) hbw.size ?_)
          intro v' w' ho' hg' hb'
          go_wp2
          go_roundw
          case rel => first | exact ⟨q + 1, _, rfl, by omega, by go_num, by rw [HSN.out]; exact ho', hbw.trans hb'⟩ | ((repeat apply Exists.intro); exact ⟨⟨q + 1, _, rfl, by omega, by go_num, by rw [HSN.out]; exact ho', hbw.trans hb'⟩, rfl⟩)
          case measure => simp [intOf]; omega
        · have hql : q = xs.length := by omega
          subst hql
          have HNS := Lib.hid (not_done hown)
          have HBW := Lib.hid hbw
          have HS5 := Lib.hid (HS4.out.below hbw (Nat.le_refl _))
          clear hown hbw
          go_wp2_with fail
          refine (Least_any _ xs _ _ (by omega) HBD.out (by omega) (by omega) (by omega) (by omega) _ HS5.out).mono ?_
          rintro e w6 ⟨v3, rfl, hr3, hb6⟩
          have hcs := cls_same (notL xs)
          rw [notL_len] at hcs
          rw [(hcs _ _).1] at hr3
          rw [(hcs _ _).2]
          have HR3 := Lib.hid hr3; clear hr3 hcs
          have HB6 := Lib.hid hb6; clear hb6
          go_wp2_with fail
          refine (refAtMost_any _ (notL xs) _ _ (by rw [notL_len]; omega) (notL_bd xs HBD.out) (by omega) (by omega) _ (HNS.out.below HB6.out (Nat.le_refl _))).mono ?_
          rintro e w7 ⟨v4, rfl, hr4, hb7⟩
          have HR4 := Lib.hid hr4; clear hr4
          have HB7 := Lib.hid hb7; clear hb7
          go_wp2_with fail
          refine (same_any _ _ _ _ _ _ (HR3.out.below HB7.out) HR4.out (clsL_len _ _ _ (by rw [notL_len]; omega)) (clsL_row _ _ _ (by rw [notL_len]; omega))).mono ?_
          rintro e w8 ⟨rfl, hb8⟩
          have z1 := HB.out.size
          have z2 := HBC.out.size
          have z3 := HBW.out.size
          have z4 := HB6.out.size
          have z5 := HB7.out.size
          have z6 := hb8.size
          have HALL := Lib.hid (HB.out.trans ((HBC.out.mono z1).trans ((HBW.out.mono (Nat.le_trans z1 z2)).trans ((HB6.out.mono (Nat.le_trans z1 (Nat.le_trans z2 z3))).trans ((HB7.out.mono (Nat.le_trans z1 (Nat.le_trans z2 (Nat.le_trans z3 z4)))).trans (hb8.mono (Nat.le_trans z1 (Nat.le_trans z2 (Nat.le_trans z3 (Nat.le_trans z4 z5))))))))))
          clear z1 z2 z3 z4 z5 z6 hb8
          go_wp2_with fail
          refine (lives21 _).mono ?_
          rintro e w9 ⟨rfl, hb9⟩
          go_wp2
          go_ret
          exact ⟨rfl, HALL.out.trans (hb9.mono HALL.out.size)⟩
theorem walk_WeighClauses (lv : Value) (l : List Int) (k next : Int) (w : World) (hl : Reads w iV lv l) (hwf : ∀ n ∈ l, -9223372036854775808 ≤ n ∧ n ≤ 9223372036854775807) (hk : -9223372036854775808 ≤ k ∧ k ≤ 9223372036854775807) (hn : 0 ≤ next ∧ next ≤ 18446744073709551615) :
    Calls Try.prog 3 #[lv, .int .i64 k, .int .u64 next] w fun e w' => e = .returned (.bool true) ∧ Below w.heap.size w w' := by
  by_cases h1 : k < -3
  · exact clauses_at lv l k (-3) next (.inl ⟨h1, rfl⟩) w hl hwf hk hn
  by_cases h2 : 50 < k
  · exact clauses_at lv l k 50 next (.inr (.inl ⟨h2, rfl⟩)) w hl hwf hk hn
  exact clauses_at lv l k k next (.inr (.inr ⟨by omega, by omega, rfl⟩)) w hl hwf hk hn

set_option maxRecDepth 100000 in
theorem lifted_WeighClauses (os : Os) (started : os.Started) (H : Type) (enc : TypeId × Value → H) :
    ReturnsInHanded {} Try.checked os 3 .any (Rows.weighClausesSpec.pre6 enc Try.prog Try.f3 Rows.weighClausesRow.domain false) (Rows.weighClausesSpec.post enc Try.prog Try.f3 false true false false) := by
  refine returnsInHanded_of_change (C := Try.checked) own_knob started (by kernel_rfl) Try.func3
    (ChangeSpec.witness6 (enc := enc) (C := Try.checked) false ⟨#[], #[.slice none 0 0, .int .i64 0, .int .u64 0], []⟩ 8 (by kernel_rfl) (by kernel_rfl) (by kernel_rfl) (by kernel_rfl)) ?_
  intro W base args ds gs before hval0 hW _ _
  have hval : ∀ (j : Nat) t v, Try.f3.params[j]? = some t → args[j]? = some v → Value.okWide Try.prog W .any base t v := hval0
  have hW' := hW
  obtain ⟨p, q, hA0, hV, rfl, _, _⟩ := hW
  have hA : DataW.TrodAll enc Try.prog W 0 (fun _ => true) true Try.f3.params.toList args.toList ds p := hA0
  rw [Try.params3] at hA hval
  obtain ⟨v0, vs0, d0, ds0, p0, q0, hargs, rfl, rfl, h0, r0⟩ := trodAll_cons hA
  obtain ⟨v1, vs1, d1, ds1, p1, q1, rfl, rfl, rfl, h1, r1⟩ := trodAll_cons r0
  obtain ⟨v2, vs2, d2, ds2, p2, q2, rfl, rfl, rfl, h2, r2⟩ := trodAll_cons r1
  obtain ⟨rfl, rfl, rfl⟩ := trodAll_nil r2
  obtain rfl : args = #[v0, v1, v2] := by cases args; simp_all
  obtain ⟨rfl, rfl⟩ := trodVars_none hV
  obtain ⟨l0, g0, w0⟩ := open_reads_ints (hval 0 22 v0 rfl rfl) h0
  obtain ⟨a1, rfl, rfl, rfl, w1⟩ := open_int Try.underlying3 (hval 1 3 v1 rfl rfl) h1
  obtain ⟨a2, rfl, rfl, rfl, w2⟩ := open_int Try.underlying23 (hval 2 23 v2 rfl rfl) h2
  clear hA0 hval0
  refine (walk_WeighClauses v0 l0 a1 a2 W g0 w0 (wf_i64 w1) (wf_u64 w2)).mono fun e W' ⟨he, hb⟩ => ?_
  subst he
  exact ⟨_, rfl, law_post (by kernel_rfl) rfl rfl rfl hW' hb⟩

/-- the statement of WeighClauses -/
theorem proved_WeighClauses : Rows.WeighClausesSaid :=
  OpenClaim.holds_of_wide 3 Try.f3 rfl rfl rfl rfl rfl rfl rfl ⟨rfl, rfl, rfl, rfl, rfl⟩ rfl rfl rfl rfl rfl (by kernel_rfl) Try.func3 (by kernel_rfl)
    (of_decide_eq_true (by kernel_rfl)) (by unfold Func.isWrapper; first | (rw [if_pos (by decide +kernel)]; kernel_rfl) | (rw [if_neg (by decide +kernel)]; exact ⟨rfl, rfl⟩))
    (fun os started H enc _ => lifted_WeighClauses os started H enc)
end Go.Proofs.Ytfgoalgfpcalgaa
