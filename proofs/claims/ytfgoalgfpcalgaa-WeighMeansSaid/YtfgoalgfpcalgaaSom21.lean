/-
  Layer 21: the contract of the statements' some: a copy of the rows, with a row of one literal for each truth behind them. Own work.
-/
import Derived.Test.YtfgoalgfpcalgaaSome21
import Derived.Test.YtfgoalgfpcalgaaRefMost
import Derived.Laws.AppendOwnNone
namespace Go.Proofs.Ytfgoalgfpcalgaa
set_option linter.unusedVariables false
set_option linter.unusedSimpArgs false
open Go.RowKit

/-- v is a slice of the call's own, of rows that lie wherever -/
def Rows0 (w : World) (base : Nat) (v : Value) (cs : List (List Int)) : Prop :=
  ∃ rows, w.ownsRow base 22 1 v cs.length rows ∧ ∀ (j : Nat) c, cs[j]? = some c → ∃ r, rows[j]? = some r ∧ RowAt w 0 r c
theorem own_zero {w : World} {base e size n : Nat} {v : Value} {xs : List Value} (h : w.ownsRow base e size v n xs) : w.ownsRow 0 e size v n xs := by
  obtain ⟨h1, h2⟩ := h
  refine ⟨h1, ?_⟩
  rcases h2 with h | ⟨g, cap, cur, a, b, c⟩
  · exact .inl h
  · exact .inr ⟨g, cap, cur, a, Nat.zero_le _, c⟩
theorem Rows0.at0 {w : World} {base : Nat} {v : Value} {cs : List (List Int)} (h : Rows0 w base v cs) : RowsAt w 0 v cs := by
  obtain ⟨rows, h1, h2⟩ := h
  exact ⟨rows, own_zero h1, h2⟩
theorem rows_app0 {w w1 : World} {base : Nat} {v v' : Value} {cs news : List (List Int)} {rows rs : List Value} (hown : w.ownsRow base 22 1 v cs.length rows)
    (hrows : ∀ (j : Nat) c, cs[j]? = some c → ∃ r, rows[j]? = some r ∧ RowAt w 0 r c) (hl : rs.length = news.length) (hrs : ∀ (j : Nat) c, news[j]? = some c → ∃ r, rs[j]? = some r ∧ RowAt w 0 r c)
    (ho : w1.ownsRow base 22 1 v' (cs.length + rs.length) (rows ++ rs)) (hg : w.grownBy w1 v.ownBlock) : Rows0 w1 base v' (cs ++ news) := by
  have hkeep : ∀ (b : Nat) (cur : Array Value), w.heap[b]? = some (Obj.cells cur 3 (0, 0)) → w1.heap[b]? = w.heap[b]? := by
    intro b cur hb
    have hblt : b < w.heap.size := (Array.getElem?_eq_some_iff.1 hb).1
    have hbo : some b ≠ v.ownBlock := fun e => by
      rcases hown.2 with ⟨rfl, _⟩ | ⟨g, cap, cur2, rfl, _, hg2, _⟩
      · simp [Value.ownBlock] at e
      · simp [Value.ownBlock] at e
        subst e
        rw [hg2] at hb
        simp at hb
    exact hg.block b hblt hbo
  have hlen : rows.length = cs.length := by have := hown.1; omega
  refine ⟨rows ++ rs, by rw [List.length_append, ← hl]; exact ho, fun j d hj => ?_⟩
  by_cases hlt : j < cs.length
  · rw [List.getElem?_append_left hlt] at hj
    obtain ⟨r0, h1, h2⟩ := hrows j d hj
    exact ⟨r0, by rw [List.getElem?_append_left (by omega)]; exact h1, h2.keep hkeep⟩
  · rw [List.getElem?_append_right (by omega)] at hj
    obtain ⟨r0, h1, h2⟩ := hrs _ d hj
    exact ⟨r0, by rw [List.getElem?_append_right (by omega), hlen]; exact h1, h2.keep hkeep⟩
theorem Rows0.one {wr w1 : World} {base : Nat} {v v' : Value} {cs : List (List Int)} {rows : List Value} (hown : wr.ownsRow base 22 1 v cs.length rows)
    (hrows : ∀ (j : Nat) c, cs[j]? = some c → ∃ r, rows[j]? = some r ∧ RowAt wr 0 r c) (c : List Int) (hc : c.length ≤ 1000)
    (ho : w1.ownsRow base 22 1 v' (cs.length + 1) (rows ++ [.slice (some ⟨wr.heap.size, 0, none⟩) c.length c.length]))
    (hg : (wr.alloc (.cells (c.map iV).toArray 3)).grownBy w1 v.ownBlock) : Rows0 w1 base v' (cs ++ [c]) := by
  have hr1 : RowAt (wr.alloc (.cells (c.map iV).toArray 3)) 0 (.slice (some ⟨wr.heap.size, 0, none⟩) c.length c.length) c := RowAt.made wr 0 c (Nat.zero_le _) (by omega)
  refine rows_app0 (rs := [.slice (some ⟨wr.heap.size, 0, none⟩) c.length c.length]) (hown.alloc _) (fun j d hj => ?_) rfl (fun j d hj => ?_) ho hg
  · obtain ⟨r, a, b⟩ := hrows j d hj
    exact ⟨r, a, b.alloc _⟩
  · match j with
    | 0 => simp at hj; subst hj; exact ⟨_, rfl, hr1⟩
    | j + 1 => simp at hj
theorem RowAt.zero {w : World} {lo : Nat} {v : Value} {c : List Int} (h : RowAt w lo v c) : RowAt w 0 v c := by
  obtain ⟨b, cap, cur, h1, h2, h3⟩ := h
  exact ⟨b, cap, cur, h1, Nat.zero_le _, h3⟩
/-- what `append([][]int{}, clauses...)` does -/
theorem step_copy {ops : Array Oper} {rest : List Oper} {o : Oper} {a : Act} {Q : Exit → Act → World → Prop} {w : World} (hgd : o.guard = none) (s x : Operand)
    (ho : o.op = .call { callee := .builtin .append, args := #[s, x], argTypes := #[25, 25] })
    {lo : Nat} {cv : Value} {cs : List (List Int)} (hc : RowsAt w lo cv cs) (hn : cs.length ≤ 1000000) (hs : a.eval s = .slice (some ⟨w.heap.size, 0, none⟩) 0 0) (hx : a.eval x = cv)
    (h : ∀ v' w', Rows0 w' w.heap.size v' cs → Below w.heap.size w w' → wpList Try.prog ops Q rest (a.put o.dst v') w') :
    wpList Try.prog ops Q (o :: rest) a (w.alloc (.cells #[] 22)) := by
  obtain ⟨rows, hown, hrows⟩ := hc
  obtain ⟨i, hi, hz, hsize, hby⟩ := info_parts row_info
  have hlit : (w.alloc (.cells #[] 22)).ownsRow w.heap.size 22 1 (.slice (some ⟨w.heap.size, 0, none⟩) 0 0) 0 [] := World.ownsRow_lit (base := w.heap.size) (e := 22) (size := 1) w #[] 0 (Nat.le_refl _) (by decide) rfl
  have ha : Below w.heap.size w (w.alloc (.cells #[] 22)) := (Below.refl _ _).alloc (Nat.le_refl _) _
  rcases hown.2 with ⟨rfl, h0⟩ | ⟨g, cap, cur, rfl, hbg, hg, hnc, hcm, hcs, htk⟩
  · refine wpList_append_own_none hgd s x 25 ho w.heap.size 22 i 1 Try.underlying25 hi _ 0 [] hs hlit hx ?_
    have hnil := List.eq_nil_of_length_eq_zero h0
    subst hnil
    exact h _ _ ⟨[], hlit, fun j c hj => by simp at hj⟩ ha
  · have hlen : rows.length = cs.length := by have := hown.1; omega
    have hgl : g < w.heap.size := (Array.getElem?_eq_some_iff.1 hg).1
    refine wpList_append_own _ hgd s x 25 ho w.heap.size 22 i (.slice none 0 0) 1 24 Try.underlying25 hi hz hsize hby rfl (by omega) _ 0 [] hs hlit ⟨g, 0, none⟩ cs.length cap rows hx (by omega) ?_ ?_ (by simp only [maxLen]; omega) (by omega) (by simp) ?_
    · intro j u hj
      have hadd : (⟨g, 0, none⟩ : Addr).add j = ⟨g, j, none⟩ := by unfold Addr.add; split <;> simp_all
      rw [hadd]
      have hjl : j < cs.length := by have := (List.getElem?_eq_some_iff.1 hj).1; omega
      rw [ha.cell (p := ⟨g, j, none⟩) hgl, hown.cellAt j (by omega)]
      exact hj
    · intro u hu
      obtain ⟨j, hj, rfl⟩ := List.getElem_of_mem hu
      obtain ⟨r, h1, b, cp, c2, h2, -⟩ := hrows j cs[j] (List.getElem?_eq_getElem (by omega))
      rw [List.getElem?_eq_getElem hj] at h1
      cases h1
      rw [h2]; rfl
    · intro v' w' ho' hg' _
      have hb' : Below w.heap.size w w' := ha.grown hg' (by simp) (fun k hk => by simp [Value.ownBlock] at hk; omega)
      refine h v' w' ⟨rows, by simpa using ho', fun j c hj => ?_⟩ hb'
      obtain ⟨r, h1, h2⟩ := hrows j c hj
      exact ⟨r, h1, h2.zero.keep fun b0 cur0 hb0 => hb'.block b0 (Array.getElem?_eq_some_iff.1 hb0).1⟩
/-- rows of one literal each, as the first truths have it -/
def unitN (ts : List Bool) (k : Nat) : List (List Int) := (List.range k).map fun i => [if ts.getD i false then (i : Int) + 1 else -((i : Int) + 1)]
theorem unitN_snoc (ts : List Bool) (k : Nat) (t : Bool) (h : ts[k]? = some t) : unitN ts (k + 1) = unitN ts k ++ [[if t then (k : Int) + 1 else -((k : Int) + 1)]] := by
  unfold unitN
  rw [List.range_succ, List.map_append, List.map_cons, List.map_nil, List.getD, h]
  rfl
theorem unitN_len (ts : List Bool) (k : Nat) : (unitN ts k).length = k := by unfold unitN; simp
theorem unitN_row (ts : List Bool) (k : Nat) : ∀ c ∈ unitN ts k, c.length ≤ 1 := by
  intro c hc
  unfold unitN at hc
  obtain ⟨i, _, rfl⟩ := List.mem_map.1 hc
  simp
def SoRel (w : World) (cs : List (List Int)) (ts : List Bool) (wr : World) (v i : Value) : Prop :=
  ∃ (k : Nat) (u : Value), u = v ∧ k ≤ ts.length ∧ i = .int .i64 k ∧ Rows0 wr w.heap.size u (cs ++ unitN ts k) ∧ Below w.heap.size w wr
set_option maxHeartbeats 2000000 in
theorem some_any (cv tv : Value) (cs : List (List Int)) (ts : List Bool) (vars : Nat) (hv : vars ≤ 13) (lo : Nat) (w : World) (hc : RowsAt w lo cv cs) (hn : cs.length ≤ 900000) (hcl : ∀ (j : Nat) c, cs[j]? = some c → c.length ≤ 1000000)
    (ht : Reads w bV tv ts) (htl : ts.length ≤ 100) (htl0 : 1 ≤ ts.length) :
    Calls Try.prog 15 #[cv, tv, .int .i64 vars] w fun e w' => e = .returned (.bool (decide (∃ m, m < 2 ^ vars ∧ ∀ c ∈ cs ++ unitN ts ts.length, anyT (bitsN vars m) c = true))) ∧ Below w.heap.size w w' := by
  rcases ht with ⟨_, h⟩ | ⟨a, cap, rfl, t1, t2, t3⟩
  · subst h; simp at htl0
  obtain ⟨ca, cc, rfl⟩ := rows_shape hc
  have HC := Lib.hid hc; clear hc
  have HT := Lib.hid t3; clear t3
  have htb : (ts.length : Int) ≤ 100 := by omega
  have hcl2 : ∀ (j : Nat) c, (cs ++ unitN ts ts.length)[j]? = some c → c.length ≤ 1000000 := by
    intro j c hj
    rcases List.mem_append.1 (List.mem_of_getElem? hj) with h | h
    · obtain ⟨q, hq⟩ := List.getElem?_of_mem h
      exact hcl q c hq
    · have := unitN_row ts _ c h
      omega
  have HCL := Lib.hid hcl2; clear hcl2 hcl
  go_enter Try.func15, Try.ntmps15
  go_wp2_with (at_builtin
               refine step_copy rfl _ _ rfl HC.out (by omega) rfl rfl ?_)
  intro v0 w0 hr0 hb0
  have HR0 := Lib.hid hr0; clear hr0
  have HB0 := Lib.hid hb0; clear hb0
  go_wp2_with fail
  go_loopw [7, 15] (fun v i wr => SoRel w cs ts wr v i) (fun _ i _ => ts.length - (intOf i).toNat)
  case atStart => exact ⟨0, _, rfl, by omega, rfl, by simpa [unitN] using HR0.out, HB0.out⟩
  case round =>
    obtain ⟨k, v, rfl, hk, rfl, hr, hb⟩ := hrel
    by_cases hlt : k < ts.length
    · obtain ⟨t, htk⟩ : ∃ t, ts[k]? = some t := ⟨_, List.getElem?_eq_getElem hlt⟩
      have hci := (hb.cell (World.block_lt_of_cell? w _ (HT.out k t htk))).trans (HT.out k t htk)
      have hlt' : (k : Int) < ts.length := by omega
      have HSN := Lib.hid (unitN_snoc ts k t htk)
      obtain ⟨rows, hown, hrows⟩ := hr
      have HROWS := Lib.hid hrows
      have hlen : (cs ++ unitN ts k).length ≤ 1000000 := by rw [List.length_append, unitN_len]; omega
      have HAPP := Lib.hid (List.append_assoc cs (unitN ts k))
      generalize cs ++ unitN ts k = L at hown HROWS hlen HAPP
      have hsz := hb.size
      have HB := Lib.hid hb
      clear htk hrows hb
      unfold bV at hci
      cases t
      · go_wp2_with (at_builtin
                     refine appL [.slice (some ⟨wr.heap.size, 0, none⟩) 1 1] rfl _ _ 25 22 rfl (.slice none 0 0) 24 w.heap.size L.length Try.underlying25 row_info rfl v _ rfl (hown.alloc _) _ 1 rfl (by simp) rfl one_cell (by simp only [List.length_singleton]; omega) (by simp only [List.length_singleton]; omega) (by simp; omega) ?_)
        intro v' w' ho' hg' hb'
        have hr' := Rows0.one hown HROWS.out [-((k : Int) + 1)] (by simp) ho' hg'
        have HR' := Lib.hid hr'
        have HB' := Lib.hid (HB.out.trans (((Below.refl _ _).alloc hsz _).trans hb'))
        clear ho' hg' hb' hown hr'
        go_wp2
        go_roundw
        case rel => exact ⟨k + 1, _, rfl, by omega, by go_num, by rw [HSN.out, ← HAPP.out]; exact HR'.out, HB'.out⟩
        case measure => simp [intOf]; omega
      · go_wp2_with (at_builtin
                     refine appL [.slice (some ⟨wr.heap.size, 0, none⟩) 1 1] rfl _ _ 25 22 rfl (.slice none 0 0) 24 w.heap.size L.length Try.underlying25 row_info rfl v _ rfl (hown.alloc _) _ 1 rfl (by simp) rfl one_cell (by simp only [List.length_singleton]; omega) (by simp only [List.length_singleton]; omega) (by simp; omega) ?_)
        intro v' w' ho' hg' hb'
        have hr' := Rows0.one hown HROWS.out [(k : Int) + 1] (by simp) ho' hg'
        have HR' := Lib.hid hr'
        have HB' := Lib.hid (HB.out.trans (((Below.refl _ _).alloc hsz _).trans hb'))
        clear ho' hg' hb' hown hr'
        go_wp2
        go_roundw
        case rel => exact ⟨k + 1, _, rfl, by omega, by go_num, by rw [HSN.out, ← HAPP.out]; exact HR'.out, HB'.out⟩
        case measure => simp [intOf]; omega
    · have hkl : k = ts.length := by omega
      have hlt' : (ts.length : Int) ≤ k := by omega
      have HKL := Lib.hid hkl; clear hkl
      have hlen : (cs ++ unitN ts k).length ≤ 1000000 := by rw [List.length_append, unitN_len]; omega
      have hcall := Some_any v (cs ++ unitN ts k) vars hv 0 wr hr.at0 hlen (by rw [HKL.out]; exact HCL.out)
      rw [HKL.out] at hcall
      have HCALL := Lib.hid hcall
      have HB := Lib.hid hb
      clear hcall hr hb hlen
      go_wp2_with fail
      refine HCALL.out.mono ?_
      rintro e w2 ⟨rfl, hb2⟩
      have HB2 := Lib.hid (HB.out.trans (hb2.mono HB.out.size))
      clear hb2
      go_wp2
      go_ret
      exact ⟨rfl, HB2.out⟩
end Go.Proofs.Ytfgoalgfpcalgaa
