/-
  Layer 16: the answer's Follows. Own work.
-/
import Derived.Test.YtmiiclhhenepiaaRefM16
import Derived.Test.YtmiiclhhenepiaaHas16
import Derived.Test.YtmiiclhhenepiaaTk16
namespace Go.Proofs.Ytmiiclhhenepiaa
set_option linter.unusedVariables false
set_option linter.unusedSimpArgs false
open Go.RowKit

theorem reads_own16 {α : Type} {w : World} {f : α → Value} {v : Value} {xs : List α} {base e : Nat} (h : w.ownsRow base e 1 v xs.length (xs.map f)) : Reads w f v xs := by
  rcases h.2 with ⟨rfl, h0⟩ | ⟨g, cap, cur, rfl, _, _, h1, h2, _⟩
  · exact .inl ⟨rfl, List.eq_nil_of_length_eq_zero h0⟩
  · refine .inr ⟨⟨g, 0, none⟩, cap, rfl, h1, by unfold maxLen at h2; exact h2, fun j n hj => ?_⟩
    exact h.cells (g := g) rfl j _ (by rw [List.getElem?_map, hj]; rfl)
/-- one number more behind a row of numbers -/
theorem appZ {ops : Array Oper} {rest : List Oper} {o : Oper} {a : Act} {Q : Exit → Act → World → Prop} (hgd : o.guard = none) (s x : Operand)
    (ho : o.op = .call { callee := .builtin .append, args := #[s, x], argTypes := #[31, 31] }) (w2 : World) (u : Int) {base n : Nat} {v : Value} {xs : List Value} (hsv : a.eval s = v) (hx : a.eval x = .slice (some ⟨w2.heap.size, 0, none⟩) 1 1)
    (hown : w2.ownsRow base 3 1 v n xs) (hn : n ≤ 1000000) (hbase : base ≤ w2.heap.size)
    (hK : ∀ g cap w', w'.ownsRow base 3 1 (.slice (some ⟨g, 0, none⟩) (n + 1) cap) (n + 1) (xs ++ [iV u]) → w2.grownBy w' v.ownBlock → wpList Try.prog ops Q rest (a.put o.dst (.slice (some ⟨g, 0, none⟩) (n + 1) cap)) w') :
    wpList Try.prog ops Q (o :: rest) a (w2.alloc (.cells #[.int .i64 u] 3)) := by
  obtain ⟨i, hi, hz, hsize, hby⟩ := info_parts int16_info
  refine wpList_append_lies _ hgd s x 31 ho base 3 i _ 1 8 Try.underlying31 hi hz hsize hby rfl (by omega) v n xs hsv (hown.alloc _) ⟨w2.heap.size, 0, none⟩ 1 1 [iV u] hx rfl (cell_one_new w2 _ _) (by simp [Value.oneCell', iV]) (by omega) (by simp only [maxLen]; omega) (by omega) (by simp; omega) _ rfl ?_
  intro g cap w' h2 h3 h4 h5
  exact hK g cap w' h2 ⟨h3.os, h3.tape, h3.output, Nat.le_trans (by simp) h3.size, fun k hk hne => (h3.block k (by simp; omega) hne).trans (Below.heap_alloc _ _ _ hk)⟩
/-- what the answer has taken, in memory -/
structure Yr (w : World) (v : Value) (yes : List Int) (wr : World) : Prop where
  own : wr.ownsRow w.heap.size 3 1 v yes.length (yes.map iV)
  b : Below w.heap.size w wr
theorem Yr.shape {w wr : World} {v : Value} {yes : List Int} (h : Yr w v yes wr) : ∃ a c, v = .slice a yes.length c := by
  rcases h.own.2 with ⟨e, e0⟩ | ⟨g, c, cur, e, _⟩
  · exact ⟨none, 0, by rw [e, e0]⟩
  · exact ⟨_, _, e⟩
theorem Yr.push {w wr w' : World} {v v' : Value} {yes : List Int} {n : Int} (h : Yr w v yes wr) (ho : w'.ownsRow w.heap.size 3 1 v' (yes.length + 1) (yes.map iV ++ [iV n])) (hg : wr.grownBy w' v.ownBlock) : Yr w v' (yes ++ [n]) w' :=
  ⟨by rw [List.length_append, List.map_append]; exact ho, ⟨hg.os.trans h.b.os, hg.tape.trans h.b.tape, hg.output.trans h.b.output, Nat.le_trans h.b.size hg.size, fun k hk => (hg.block k (Nat.lt_of_lt_of_le hk h.b.size) (fun e => by have := (h.own.lt k e.symm).1; omega)).trans (h.b.block k hk)⟩⟩
def lenV (v : Value) : Nat := match v with
  | .slice _ n _ => n
  | _ => 0
def FlP (l : List (List Int)) (c : List Int) (w : World) (e : Ending) (w' : World) : Prop := (∃ b, e = .returned (.bool b) ∧ (b = true ↔ Fol l c)) ∧ Below w.heap.size w w'
/-- on the way through the clauses -/
structure Y4 (l : List (List Int)) (c yes : List Int) (j : Nat) (fd : Bool) (y2 : List Int) : Prop where
  yi : YI l c y2
  sub : ∀ n ∈ yes, n ∈ y2
  no : fd = false → y2 = yes ∧ ∀ x ∈ l.take j, leftL yes [] x ≠ [] ∧ ∀ n, leftL yes [] x = [n] → n ∈ yes
  yes : fd = true → yes.length < y2.length
section
variable {l : List (List Int)} {c yes y2 x : List Int} {j : Nat} {fd : Bool} {n : Int}
theorem Y4.stay (h : Y4 l c yes j fd y2) (hx : l[j]? = some x) (h1 : leftL y2 [] x ≠ []) (h2 : ∀ n, leftL y2 [] x = [n] → n ∈ y2) : Y4 l c yes (j + 1) fd y2 := by
  refine ⟨h.yi, h.sub, fun hf => ?_, h.yes⟩
  obtain ⟨rfl, h3⟩ := h.no hf
  refine ⟨rfl, fun z hz => ?_⟩
  rw [List.take_add_one, hx] at hz
  rcases List.mem_append.1 hz with hz | hz
  · exact h3 z hz
  · simp at hz
    rw [hz]
    exact ⟨h1, h2⟩
theorem Y4.more (h : Y4 l c yes j fd y2) (hx : l[j]? = some x) (h1 : leftL y2 [] x = [n]) (hn : n ∉ y2) : Y4 l c yes (j + 1) true (y2 ++ [n]) := by
  refine ⟨h.yi.one (List.mem_of_getElem? hx) h1 hn, fun m hm => List.mem_append_left _ (h.sub m hm), fun hf => (by cases hf), fun _ => ?_⟩
  rw [List.length_append, List.length_singleton]
  cases hfd : fd with
  | true => have := h.yes hfd; omega
  | false => rw [(h.no hfd).1]; omega
theorem left_len (yes : List Int) : ∀ (r pre : List Int), (leftL yes pre r).length ≤ r.length
  | [], pre => by simp [leftL]
  | m :: r, pre => by
    rw [leftL, List.length_append]
    have := left_len yes r (pre ++ [m])
    split <;> simp <;> omega
theorem reads_cap {w : World} {a : Addr} {n c : Nat} {l : List Int} (h : Reads w iV (.slice (some a) n c) l) : n ≤ c ∧ c ≤ 9223372036854775807 := by
  rcases h with ⟨h, _⟩ | ⟨b, cap, h, h1, h2, h3⟩
  · cases h
  · cases h
    exact ⟨h1, h2⟩
end
def lastOr (l : List Int) : Int := l.getLastD 0
theorem left_next {yes x : List Int} {i : Nat} {n : Int} {b : Bool} (h : x[i]? = some n) (hb : b = decide (n ≠ 0 ∧ -n ∉ yes ∧ n ∉ x.take i)) :
    leftL yes [] (x.take (i + 1)) = leftL yes [] (x.take i) ++ (if b = true then [n] else []) := by
  rw [left_take h, hb]
  by_cases hc : n ≠ 0 ∧ -n ∉ yes ∧ n ∉ x.take i
  · rw [if_pos hc, if_pos (by simpa using hc)]
  · rw [if_neg hc, if_neg (by simpa using hc)]
set_option maxRecDepth 100000 in
set_option maxHeartbeats 8000000 in
theorem RFollows_any (cv cvv : Value) (l : List (List Int)) (c : List Int) (w : World) (hc : Reads2 w cv l) (hm : Mild16 l) (hcc : Reads w iV cvv c) (hm2 : ∀ n ∈ c, -9223372036854775808 < n ∧ n ≤ 9223372036854775807) (hN : c.length + l.flatten.length ≤ 100000) :
    Calls Try.prog 15 #[cv, cvv] w (FlP l c w) := by
  have HC := Lib.hid hc
  have HCC := Lib.hid hcc
  obtain ⟨la, lc, rfl, hll, _⟩ := hc
  obtain ⟨ca, ccp, rfl, hcl, _⟩ := reads_shape hcc
  have hllI : (l.length : Int) ≤ 9223372036854775807 := by omega
  have hclI : (c.length : Int) ≤ 9223372036854775807 := by omega
  have HY := Lib.hid (show Yr w (.slice none 0 0) [] w from ⟨World.ownsRow_nil _ _ _ _, Below.refl _ _⟩)
  clear hcc hcl hll
  go_enter Try.func15, Try.ntmps15
  go_wp2_with fail
  go_loopw [5, 19] (fun v iv wr => ∃ (j : Nat) (yes : List Int), j ≤ c.length ∧ iv = .int .i64 (j : Int) ∧ Y0 c j yes ∧ yes.length ≤ j ∧ Yr w v yes wr) (fun _ iv _ => c.length - (intOf iv).toNat)
  case atStart => exact ⟨0, [], by omega, rfl, Y0.begin c, by simp, HY.out⟩
  case round =>
    obtain ⟨j, yes, hj, rfl, hy0, hyl, hyr⟩ := hrel
    obtain ⟨ya, yc, rfl⟩ := hyr.shape
    have HY0 := Lib.hid hy0
    have HYR := Lib.hid hyr
    clear hy0 hyr HY
    by_cases hlt : j < c.length
    · obtain ⟨n, hn⟩ : ∃ n, c[j]? = some n := ⟨_, List.getElem?_eq_getElem hlt⟩
      obtain ⟨ra, rc, e0, _, hcell⟩ := reads_shape (HCC.out.below HYR.out.b (Nat.le_refl _))
      cases e0
      obtain ⟨rb, rfl, hcn⟩ := hcell j n hn
      have hcn2 : wr.cell? (rb.add j) = some (.int .i64 n) := hcn
      have hjI : (j : Int) < (c.length : Int) := by omega
      obtain ⟨hn1, hn2⟩ := hm2 n (List.mem_of_getElem? hn)
      have hng : IntKind.i64.wrap (-n) = -n := IntWalk.i64_in _ ⟨by omega, by omega⟩
      have HNJ := Lib.hid hn
      clear hcell hcn hn
      by_cases hn0 : n = 0
      · subst hn0
        have HN := Lib.hid (HY0.out.skip HNJ.out (.inl rfl))
        go_wp2_with fail
        exact ⟨⟨j + 1, yes, by omega, by go_num, HN.out, by omega, HYR.out⟩, by simp [intOf]; omega⟩
      · have HH := Lib.hid (has16_any _ yes (-n) wr (reads_own16 HYR.out.own))
        have HN0 := Lib.hid hn0
        go_wp2_with fail
        refine HH.out.mono ?_
        rintro e w2 ⟨rfl, rfl⟩
        by_cases hin : -n ∈ yes
        · have HN := Lib.hid (HY0.out.skip HNJ.out (.inr hin))
          rw [decide_eq_true hin]
          clear hin HH
          go_wp2_with fail
          exact ⟨⟨j + 1, yes, by omega, by go_num, HN.out, by omega, HYR.out⟩, by simp [intOf]; omega⟩
        · have HN := Lib.hid (HY0.out.push HNJ.out HN0.out hin)
          rw [decide_eq_false hin]
          have ho := HYR.out.own
          have hbs := HYR.out.b.size
          clear hin HH
          go_wp2_with (at_builtin
                       refine appZ rfl _ _ rfl w2 (-n) (by rfl) (by rfl) ho (by omega) hbs ?_)
          intro g cap w3 ho3 hg3
          have HYN := Lib.hid (HYR.out.push ho3 hg3)
          clear ho ho3 hg3
          go_wp2_with fail
          exact ⟨⟨j + 1, yes ++ [-n], by omega, by go_num, HN.out, by simp; omega, HYN.out⟩, by simp [intOf]; omega⟩
    · obtain ⟨hyi, hsub⟩ := HY0.out.done (l := l) (by omega)
      have hle : (c.length : Int) ≤ (j : Int) := by omega
      have HYI := Lib.hid hyi
      have HSUB := Lib.hid hsub
      clear hyi hsub HY0 hyl
      go_wp2_with fail
      go_loopw [5] (fun v wx => ∃ (yes : List Int), YI l c yes ∧ (∀ n, Neg c n → n ∈ yes) ∧ Yr w v yes wx) (fun v _ => c.length + l.flatten.length - lenV v)
      case atStart => exact ⟨yes, HYI.out, HSUB.out, HYR.out⟩
      case round =>
        clear HYI HSUB HYR
        obtain ⟨yes, hyi, hsub, hyr⟩ := hrel
        obtain ⟨ya, yc, rfl⟩ := hyr.shape
        have HYI := Lib.hid hyi
        have HSUB := Lib.hid hsub
        have HYR := Lib.hid hyr
        have hyl := hyi.len
        have hylI : (yes.length : Int) ≤ 9223372036854775807 := by omega
        have hmy : ∀ n ∈ yes, -9223372036854775808 < n ∧ n ≤ 9223372036854775807 := fun n hn => by
          rcases List.mem_append.1 (hyi.sub n hn) with h | h
          · obtain ⟨m, hm, rfl⟩ := List.mem_map.1 h
            obtain ⟨h1, h2⟩ := hm2 m hm
            show -9223372036854775808 < -m ∧ -m ≤ 9223372036854775807
            exact ⟨by omega, by omega⟩
          · obtain ⟨x, hx, hn2⟩ := List.mem_flatten.1 h
            exact hm x hx n hn2
        have HMY := Lib.hid hmy
        clear hyi hsub hyr hmy
        go_wp2_with fail
        go_loop [40] (fun iv => ∃ q : Nat, q ≤ yes.length ∧ iv = .int .i64 (q : Int) ∧ ∀ m ∈ yes.take q, -m ∉ yes) (fun iv => yes.length - (intOf iv).toNat)
        case atStart => exact ⟨0, by omega, rfl, by simp⟩
        case round =>
          obtain ⟨q, hq, rfl, hno⟩ := hrel
          have HNO := Lib.hid hno
          clear hno
          by_cases hlt2 : q < yes.length
          · obtain ⟨n, hn⟩ : ∃ n, yes[q]? = some n := ⟨_, List.getElem?_eq_getElem hlt2⟩
            obtain ⟨ra, rc, e0, _, hcell⟩ := reads_shape (reads_own16 HYR.out.own)
            cases e0
            obtain ⟨rb, rfl, hcn⟩ := hcell q n hn
            have hcn2 : wr.cell? (rb.add q) = some (.int .i64 n) := hcn
            have hqI : (q : Int) < (yes.length : Int) := by omega
            obtain ⟨hn1, hn2⟩ := HMY.out n (List.mem_of_getElem? hn)
            have hng : IntKind.i64.wrap (-n) = -n := IntWalk.i64_in _ ⟨by omega, by omega⟩
            have HH := Lib.hid (has16_any _ yes (-n) wr (reads_own16 HYR.out.own))
            have HNQ := Lib.hid hn
            clear hcell hcn hn
            go_wp2_with fail
            refine HH.out.mono ?_
            rintro e w2 ⟨rfl, rfl⟩
            by_cases hin : -n ∈ yes
            · have HF := Lib.hid (show FlP l c w (.returned (.bool true)) w2 from ⟨⟨true, rfl, ⟨fun _ => got_both HYI.out.got (List.mem_of_getElem? HNQ.out) hin, fun _ => rfl⟩⟩, HYR.out.b⟩)
              rw [decide_eq_true hin]
              clear hin HH
              go_wp2
              go_ret
              exact HF.out
            · have HN := Lib.hid (show ∀ m ∈ yes.take (q + 1), -m ∉ yes from fun m hm => by
                rw [List.take_add_one, HNQ.out] at hm
                rcases List.mem_append.1 hm with hm | hm
                · exact HNO.out m hm
                · simp at hm; rw [hm]; exact hin)
              rw [decide_eq_false hin]
              clear hin HH
              go_wp2_with fail
              exact ⟨⟨q + 1, by omega, by go_num, HN.out⟩, by simp [intOf]; omega⟩
          · have HCON := Lib.hid (show ∀ m ∈ yes, -m ∉ yes from fun m hm => HNO.out m (by rw [List.take_of_length_le (by omega)]; exact hm))
            have hqe : (yes.length : Int) ≤ (q : Int) := by omega
            clear HNO
            go_wp2_with fail
            go_loopw [5, 10, 51] (fun v fv iv wx => ∃ (j : Nat) (y2 : List Int) (fd : Bool), j ≤ l.length ∧ iv = .int .i64 (j : Int) ∧ fv = .bool fd ∧ Y4 l c yes j fd y2 ∧ Yr w v y2 wx) (fun _ _ iv _ => l.length - (intOf iv).toNat)
            case atStart => exact ⟨0, yes, false, by omega, rfl, rfl, ⟨HYI.out, fun _ h => h, fun _ => ⟨rfl, by simp⟩, fun h => by cases h⟩, HYR.out⟩
            case round =>
              obtain ⟨j4, y2, fd, hj4, rfl, rfl, hy4, hyr2⟩ := hrel
              obtain ⟨ya2, yc2, rfl⟩ := hyr2.shape
              have HY4 := Lib.hid hy4
              have HYR2 := Lib.hid hyr2
              have hyl2 := hy4.yi.len
              clear hy4 hyr2
              by_cases hlt4 : j4 < l.length
              · obtain ⟨x, hx⟩ : ∃ x, l[j4]? = some x := ⟨_, List.getElem?_eq_getElem hlt4⟩
                obtain ⟨a0, c0, e0, _, hcell⟩ := HC.out.below HYR2.out.b (Nat.le_refl _)
                cases e0
                obtain ⟨lb, r, rfl, hr, hrd⟩ := hcell j4 x hx
                obtain ⟨xa, xc, rfl, hxl, _⟩ := reads_shape hrd
                have HRD := Lib.hid hrd
                have HXJ := Lib.hid hx
                have hmx := hm x (List.mem_of_getElem? hx)
                have hj4I : (j4 : Int) < (l.length : Int) := by omega
                have hxlI : (x.length : Int) ≤ 9223372036854775807 := by omega
                clear hcell hrd hx
                go_wp2_with fail
                go_loop [13, 14, 57] (fun lv ov iv => ∃ q : Nat, q ≤ x.length ∧ iv = .int .i64 (q : Int) ∧ lv = .int .i64 ((leftL y2 [] (x.take q)).length : Int) ∧ ov = .int .i64 (lastOr (leftL y2 [] (x.take q)))) (fun _ _ iv => x.length - (intOf iv).toNat)
                case atStart => exact ⟨0, by omega, rfl, rfl, rfl⟩
                case round =>
                  obtain ⟨q, hq, rfl, rfl, rfl⟩ := hrel
                  by_cases hlt5 : q < x.length
                  · obtain ⟨n, hn⟩ : ∃ n, x[q]? = some n := ⟨_, List.getElem?_eq_getElem hlt5⟩
                    obtain ⟨ra, rc, e0, _, hcell⟩ := reads_shape HRD.out
                    cases e0
                    obtain ⟨rb, rfl, hcn⟩ := hcell q n hn
                    have hcn2 : wr.cell? (rb.add q) = some (.int .i64 n) := hcn
                    have hqI : (q : Int) < (x.length : Int) := by omega
                    obtain ⟨hn1, hn2⟩ := hmx n (List.mem_of_getElem? hn)
                    have hng : IntKind.i64.wrap (-n) = -n := IntWalk.i64_in _ ⟨by omega, by omega⟩
                    have HLN := Lib.hid (fun (b : Bool) hb => left_next (yes := y2) (b := b) hn hb)
                    have hLl := left_len y2 (x.take q) []
                    rw [List.length_take] at hLl
                    generalize leftL y2 [] (x.take q) = LL at HLN hLl ⊢
                    have hwl : IntKind.i64.wrap ((LL.length : Int) + 1) = (LL.length : Int) + 1 := IntWalk.i64_in _ ⟨by omega, by omega⟩
                    clear hcell hcn hn
                    by_cases hn0 : n = 0
                    · subst hn0
                      have HE := Lib.hid (HLN.out false (by simp))
                      clear HLN
                      go_wp2_with fail
                      exact ⟨⟨q + 1, by omega, by go_num, by rw [HE.out]; simp, by rw [HE.out]; simp⟩, by simp [intOf]; omega⟩
                    · have HH := Lib.hid (has16_any _ y2 (-n) wr (reads_own16 HYR2.out.own))
                      go_wp2_with fail
                      refine HH.out.mono ?_
                      rintro e w2 ⟨rfl, rfl⟩
                      by_cases hin : -n ∈ y2
                      · have HE := Lib.hid (HLN.out false (by simp [hin]))
                        rw [decide_eq_true hin]
                        clear HLN hin HH
                        go_wp2_with fail
                        exact ⟨⟨q + 1, by omega, by go_num, by rw [HE.out]; simp, by rw [HE.out]; simp⟩, by simp [intOf]; omega⟩
                      · have hqc : (q : Int) ≤ (x.length : Int) := by omega
                        obtain ⟨hxc1, hxc2⟩ := reads_cap HRD.out
                        have hqc2 : (q : Int) ≤ (xc : Int) := by omega
                        have HH2 := Lib.hid (has16_any _ (x.take q) n w2 (reads_take HRD.out (Nat.le_of_lt hlt5) rfl))
                        have HN0 := Lib.hid hn0
                        rw [decide_eq_false hin]
                        have HIN := Lib.hid hin
                        clear hin HH
                        go_wp2_with fail
                        refine HH2.out.mono ?_
                        rintro e w3 ⟨rfl, rfl⟩
                        by_cases hin2 : n ∈ x.take q
                        · have HE := Lib.hid (HLN.out false (by simp [hin2]))
                          rw [decide_eq_true hin2]
                          clear HLN hin2 HH2
                          go_wp2_with fail
                          exact ⟨⟨q + 1, by omega, by go_num, by rw [HE.out]; simp, by rw [HE.out]; simp⟩, by simp [intOf]; omega⟩
                        · have HE := Lib.hid (HLN.out true (by simp [hin2, HIN.out, HN0.out]))
                          rw [decide_eq_false hin2]
                          clear HLN hin2 HH2
                          go_wp2_with fail
                          exact ⟨⟨q + 1, by omega, by go_num, by rw [HE.out]; simp, by rw [HE.out]; simp [lastOr]⟩, by simp [intOf]; omega⟩
                  · have htk : x.take q = x := List.take_of_length_le (by omega)
                    have hqe : (x.length : Int) ≤ (q : Int) := by omega
                    rw [htk]
                    generalize hLL : leftL y2 [] x = LL
                    have HLL := Lib.hid hLL
                    have HXM := Lib.hid (List.mem_of_getElem? HXJ.out)
                    clear hLL htk
                    match LL, HLL with
                    | [], HLL =>
                      have HF := Lib.hid (show FlP l c w (.returned (.bool true)) wr from ⟨⟨true, rfl, ⟨fun _ => left_none HXM.out HY4.out.yi.got HLL.out, fun _ => rfl⟩⟩, HYR2.out.b⟩)
                      go_wp2
                      go_ret
                      exact HF.out
                    | [n], HLL =>
                      have HH := Lib.hid (has16_any _ y2 n wr (reads_own16 HYR2.out.own))
                      have hlo : lastOr [n] = n := rfl
                      rw [hlo]
                      go_wp2_with fail
                      refine HH.out.mono ?_
                      rintro e w2 ⟨rfl, rfl⟩
                      by_cases hin : n ∈ y2
                      · have HN := Lib.hid (HY4.out.stay HXJ.out (by rw [HLL.out]; simp) (fun m hm => by rw [HLL.out] at hm; cases hm; exact hin))
                        rw [decide_eq_true hin]
                        clear hin HH
                        go_wp2_with fail
                        exact ⟨⟨j4 + 1, y2, fd, by omega, by go_num, rfl, HN.out, HYR2.out⟩, by simp [intOf]; omega⟩
                      · have HN := Lib.hid (HY4.out.more HXJ.out HLL.out hin)
                        rw [decide_eq_false hin]
                        have ho := HYR2.out.own
                        have hbs := HYR2.out.b.size
                        clear hin HH
                        go_wp2_with (at_builtin
                                     refine appZ rfl _ _ rfl w2 n (by rfl) (by rfl) ho (by omega) hbs ?_)
                        intro g cap w3 ho3 hg3
                        have HYN := Lib.hid (HYR2.out.push ho3 hg3)
                        clear ho ho3 hg3
                        go_wp2_with fail
                        exact ⟨⟨j4 + 1, y2 ++ [n], true, by omega, by go_num, rfl, HN.out, HYN.out⟩, by simp [intOf]; omega⟩
                    | n1 :: n2 :: r5, HLL =>
                      have HN := Lib.hid (HY4.out.stay HXJ.out (by rw [HLL.out]; simp) (fun m hm => by rw [HLL.out] at hm; cases hm))
                      have hl1 : ¬ (((n1 :: n2 :: r5).length : Nat) : Int) = 0 := by simp; omega
                      have hl2 : ¬ (((n1 :: n2 :: r5).length : Nat) : Int) = 1 := by simp; omega
                      generalize (n1 :: n2 :: r5).length = L2 at hl1 hl2 ⊢
                      go_wp2_with fail
                      exact ⟨⟨j4 + 1, y2, fd, by omega, by go_num, rfl, HN.out, HYR2.out⟩, by simp [intOf]; omega⟩
              · have hle4 : (l.length : Int) ≤ (j4 : Int) := by omega
                have htk : l.take j4 = l := List.take_of_length_le (by omega)
                cases fd with
                | true =>
                  have hgt := HY4.out.yes rfl
                  have HN := Lib.hid (show YI l c y2 ∧ ∀ n, Neg c n → n ∈ y2 from ⟨HY4.out.yi, fun n hn => HY4.out.sub n (HSUB.out n hn)⟩)
                  clear htk
                  go_wp2_with fail
                  exact ⟨⟨y2, HN.out.1, HN.out.2, HYR2.out⟩, by show c.length + l.flatten.length - y2.length < c.length + l.flatten.length - yes.length; omega⟩
                | false =>
                  obtain ⟨rfl, hall⟩ := HY4.out.no rfl
                  rw [htk] at hall
                  have HF := Lib.hid (show FlP l c w (.returned (.bool false)) wr from ⟨⟨false, rfl, ⟨fun h => (by cases h), fun h => absurd h (pass_none HSUB.out HCON.out (fun x hx => (hall x hx).1) (fun x hx => (hall x hx).2) (fun x _ => left_nodup _ _ _))⟩⟩, HYR2.out.b⟩)
                  clear htk hall
                  go_wp2
                  go_ret
                  exact HF.out
end Go.Proofs.Ytmiiclhhenepiaa
