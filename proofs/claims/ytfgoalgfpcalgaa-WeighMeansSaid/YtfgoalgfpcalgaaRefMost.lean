/-
  Layer 21: the contract of the answer's AtMost: the same clauses. Own work.
-/
import Derived.Test.YtfgoalgfpcalgaaAtMostLem
import Derived.Test.YtfgoalgfpcalgaaAtMost0
namespace Go.Proofs.Ytfgoalgfpcalgaa
set_option linter.unusedVariables false
set_option linter.unusedSimpArgs false
open Go.RowKit

/-- what `append(s, x, ..)` of the elements of a row of their own does -/
theorem appL {P : Program} {ops : Array Oper} {rest : List Oper} {o : Oper} {a : Act} {Q : Exit → Act → World → Prop} {w0 : World} (news : List Value) (hgd : o.guard = none) (s x : Operand) (t e : TypeId)
    (ho : o.op = .call { callee := .builtin .append, args := #[s, x], argTypes := #[t, t] }) (z : Value) (bytes base n : Nat)
    (ht : P.underlying t = some (.slice e)) (hinfo : (P.info? e).map (fun i => (i.zero, i.size, i.bytes)) = some (some z, 1, bytes)) (hzs : z.cells.size = 1)
    (v : Value) (xs : List Value) (hs : a.eval s = v) (hown : w0.ownsRow base e 1 v n xs) (g : Nat) (m : Nat) (hm : m = news.length) (hgz : g = w0.heap.size) (hx : a.eval x = .slice (some ⟨g, 0, none⟩) m m) (h1 : ∀ u ∈ news, u.oneCell' = true)
    (h63 : n + news.length ≤ 281474976710656) (hbytes : (n + news.length) * bytes ≤ 140737488355328) (hbase : base ≤ w0.heap.size)
    (h : ∀ v' w', w'.ownsRow base e 1 v' (n + news.length) (xs ++ news) → w0.grownBy w' v.ownBlock → Below base w0 w' → wpList P ops Q rest (a.put o.dst v') w') :
    wpList P ops Q (o :: rest) a (w0.alloc (.cells news.toArray e)) := by
  subst hm; subst hgz
  obtain ⟨i, hi, hz, hsize, hby⟩ := info_parts hinfo
  have hlt : ∀ k, v.ownBlock = some k → base ≤ k := fun k hk => (hown.lt k hk).1
  refine wpList_append_own _ hgd s x t ho base e i z 1 bytes ht hi hz hsize hby hzs (by omega) v n xs hs (hown.alloc _) ⟨w0.heap.size, 0, none⟩ news.length news.length news hx (by omega) ?_ h1 (by simp only [maxLen]; omega) hbytes (by simp; omega) ?_
  · intro j y hj
    have hadd : (⟨w0.heap.size, 0, none⟩ : Addr).add j = ⟨w0.heap.size, j, none⟩ := by unfold Addr.add; split <;> simp_all
    rw [hadd]
    show (w0.alloc (Obj.cells news.toArray e)).cell? ⟨w0.heap.size, j, none⟩ = some y
    rw [cell_of_row _ w0.heap.size j news.toArray e (0, 0) (heap_alloc_new w0 _)]
    simpa using hj
  · intro v' w' ho' hg _
    have hg0 : w0.grownBy w' v.ownBlock := ⟨hg.os, hg.tape, hg.output, Nat.le_trans (by simp) hg.size, fun k hk hne => (hg.block k (by simp; omega) hne).trans (Below.heap_alloc _ _ _ hk)⟩
    exact h v' w' ho' hg0 ((Below.refl _ _).grown hg0 hbase hlt)

theorem one_cell {b n c : Nat} : ∀ u ∈ [Value.slice (some ⟨b, 0, none⟩) n c], u.oneCell' = true := by
  intro u hu
  simp at hu
  subst hu; rfl
theorem two_cell {b n c b' n' c' : Nat} : ∀ u ∈ [Value.slice (some ⟨b, 0, none⟩) n c, Value.slice (some ⟨b', 0, none⟩) n' c'], u.oneCell' = true := by
  intro u hu
  simp at hu
  rcases hu with rfl | rfl <;> rfl
/-- rows appended to rows -/
theorem RowsAt.app {w w1 : World} {lo : Nat} {v v' : Value} {cs news : List (List Int)} {rows rs : List Value} (hown : w.ownsRow lo 22 1 v cs.length rows)
    (hrows : ∀ (j : Nat) c, cs[j]? = some c → ∃ r, rows[j]? = some r ∧ RowAt w lo r c) (hl : rs.length = news.length) (hrs : ∀ (j : Nat) c, news[j]? = some c → ∃ r, rs[j]? = some r ∧ RowAt w lo r c)
    (ho : w1.ownsRow lo 22 1 v' (cs.length + rs.length) (rows ++ rs)) (hg : w.grownBy w1 v.ownBlock) : RowsAt w1 lo v' (cs ++ news) := by
  have hkeep : ∀ (b : Nat) (cur : Array Value), w.heap[b]? = some (Obj.cells cur 3 (0, 0)) → w1.heap[b]? = w.heap[b]? := by
    intro b cur hb
    have hblt : b < w.heap.size := (Array.getElem?_eq_some_iff.1 hb).1
    have hbo : some b ≠ v.ownBlock := fun e => by
      rcases hown.2 with ⟨rfl, _⟩ | ⟨g, cap, cur2, rfl, _, hg2, _⟩
      · simp [Value.ownBlock] at e
      · simp [Value.ownBlock] at e
        subst e
        rw [hg2] at hb
        simp at hb
    exact hg.block b hblt hbo
  have hlen : rows.length = cs.length := by have := hown.1; omega
  refine ⟨rows ++ rs, by rw [List.length_append, ← hl]; exact ho, fun j d hj => ?_⟩
  by_cases hlt : j < cs.length
  · rw [List.getElem?_append_left hlt] at hj
    obtain ⟨r0, h1, h2⟩ := hrows j d hj
    exact ⟨r0, by rw [List.getElem?_append_left (by omega)]; exact h1, h2.keep hkeep⟩
  · rw [List.getElem?_append_right (by omega)] at hj
    obtain ⟨r0, h1, h2⟩ := hrs _ d hj
    exact ⟨r0, by rw [List.getElem?_append_right (by omega), hlen]; exact h1, h2.keep hkeep⟩
theorem RowAt.alloc {w : World} {lo : Nat} {v : Value} {c : List Int} (h : RowAt w lo v c) (o : Obj) : RowAt (w.alloc o) lo v c :=
  h.keep fun b cur hb => Below.heap_alloc _ _ _ (Array.getElem?_eq_some_iff.1 hb).1

/-- what the walk of the answer keeps -/
def RM (w : World) (lb loff : Nat) (x : List Int) (cs : List (List Int)) (v : Value) (wr : World) : Prop :=
  Below w.heap.size w wr ∧ RowsAt wr w.heap.size v cs ∧ (∀ (j : Nat) (n : Int), x[j]? = some n → wr.cell? ⟨lb, loff + j, none⟩ = some (.int .i64 n)) ∧ lb < w.heap.size
theorem RM.step {w wr w1 : World} {lb loff : Nat} {x : List Int} {cs cs' : List (List Int)} {v v' : Value} (h : RM w lb loff x cs v wr) (hb : Below w.heap.size wr w1) (hr : RowsAt w1 w.heap.size v' cs') : RM w lb loff x cs' v' w1 := by
  obtain ⟨h1, h2, h3, h4⟩ := h
  exact ⟨h1.trans hb, hr, fun j n hj => (hb.cell h4).trans (h3 j n hj), h4⟩
/-- one row more: the walk's worlds -/
theorem RM.one {w wr w1 : World} {lb loff : Nat} {x : List Int} {cs : List (List Int)} {v v' : Value} {rows : List Value} (h : RM w lb loff x cs v wr) (hown : wr.ownsRow w.heap.size 22 1 v cs.length rows)
    (hrows : ∀ (j : Nat) c, cs[j]? = some c → ∃ r, rows[j]? = some r ∧ RowAt wr w.heap.size r c) (c : List Int) (hc : c.length ≤ 1000)
    (ho : w1.ownsRow w.heap.size 22 1 v' (cs.length + 1) (rows ++ [.slice (some ⟨wr.heap.size, 0, none⟩) c.length c.length]))
    (hg : (wr.alloc (.cells (c.map iV).toArray 3)).grownBy w1 v.ownBlock) (hb : Below w.heap.size (wr.alloc (.cells (c.map iV).toArray 3)) w1) : RM w lb loff x (cs ++ [c]) v' w1 := by
  have hsz := h.1.size
  have hr1 : RowAt (wr.alloc (.cells (c.map iV).toArray 3)) w.heap.size (.slice (some ⟨wr.heap.size, 0, none⟩) c.length c.length) c := RowAt.made wr w.heap.size c hsz (by omega)
  refine h.step (((Below.refl _ _).alloc hsz _).trans hb) (RowsAt.app (rs := [.slice (some ⟨wr.heap.size, 0, none⟩) c.length c.length]) (hown.alloc _) (fun j d hj => ?_) rfl (fun j d hj => ?_) ho hg)
  · obtain ⟨r, a, b⟩ := hrows j d hj
    exact ⟨r, a, b.alloc _⟩
  · match j with
    | 0 => simp at hj; subst hj; exact ⟨_, rfl, hr1⟩
    | j + 1 => simp at hj
theorem RM.two {w wr w1 : World} {lb loff : Nat} {x : List Int} {cs : List (List Int)} {v v' : Value} {rows : List Value} (h : RM w lb loff x cs v wr) (hown : wr.ownsRow w.heap.size 22 1 v cs.length rows)
    (hrows : ∀ (j : Nat) c, cs[j]? = some c → ∃ r, rows[j]? = some r ∧ RowAt wr w.heap.size r c) (c d : List Int) (hc : c.length ≤ 1000) (hd : d.length ≤ 1000)
    (ho : w1.ownsRow w.heap.size 22 1 v' (cs.length + 2) (rows ++ [.slice (some ⟨wr.heap.size, 0, none⟩) c.length c.length, .slice (some ⟨wr.heap.size + 1, 0, none⟩) d.length d.length]))
    (hg : ((wr.alloc (.cells (c.map iV).toArray 3)).alloc (.cells (d.map iV).toArray 3)).grownBy w1 v.ownBlock) (hb : Below w.heap.size ((wr.alloc (.cells (c.map iV).toArray 3)).alloc (.cells (d.map iV).toArray 3)) w1) : RM w lb loff x (cs ++ [c, d]) v' w1 := by
  have hsz := h.1.size
  have hr1 : RowAt (wr.alloc (.cells (c.map iV).toArray 3)) w.heap.size (.slice (some ⟨wr.heap.size, 0, none⟩) c.length c.length) c := RowAt.made wr w.heap.size c hsz (by omega)
  have hr2 : RowAt ((wr.alloc (.cells (c.map iV).toArray 3)).alloc (.cells (d.map iV).toArray 3)) w.heap.size (.slice (some ⟨wr.heap.size + 1, 0, none⟩) d.length d.length) d := by
    have := RowAt.made (wr.alloc (.cells (c.map iV).toArray 3)) w.heap.size d (by simp; omega) (by omega)
    simpa using this
  refine h.step ((((Below.refl _ _).alloc hsz _).alloc (by simp; omega) _).trans hb) (RowsAt.app (rs := [.slice (some ⟨wr.heap.size, 0, none⟩) c.length c.length, .slice (some ⟨wr.heap.size + 1, 0, none⟩) d.length d.length]) ((hown.alloc _).alloc _) (fun j e hj => ?_) rfl (fun j e hj => ?_) ho hg)
  · obtain ⟨r, a, b⟩ := hrows j e hj
    exact ⟨r, a, (b.alloc _).alloc _⟩
  · match j with
    | 0 => simp at hj; subst hj; exact ⟨_, rfl, hr1.alloc _⟩
    | 1 => simp at hj; subst hj; exact ⟨_, rfl, hr2⟩
    | j + 2 => simp at hj
def RRel0 (w : World) (lb loff : Nat) (x : List Int) (v i : Value) (wr : World) : Prop :=
  ∃ (m : Nat) (u : Value), u = v ∧ m ≤ x.length ∧ i = .int .i64 m ∧ RM w lb loff x (none0 (x.take m)) u wr
theorem none0_len (x : List Int) : (none0 x).length = x.length := by unfold none0; simp
set_option maxRecDepth 100000 in
set_option maxHeartbeats 4000000 in
theorem ref_zero (lv : Value) (x : List Int) (k next : Int) (hk0 : 0 ≤ k) (hk1 : k ≤ 0) (hkb : (k == 0) = true) (hx1 : 1 ≤ x.length) (hx60 : x.length ≤ 60) (hx : ∀ (j : Nat) (n : Int), x[j]? = some n → -1000000 ≤ n ∧ n ≤ 1000000) (w : World) (hl : SlOf w iV lv x) :
    Calls Try.prog 9 #[lv, .int .i64 k, .int .i64 next] w (AmPost0 x next w) := by
  obtain ⟨la, lcap, rfl, hl1, hl2, hlc⟩ := hl
  obtain ⟨x0, hx0⟩ : ∃ n, x[0]? = some n := ⟨_, List.getElem?_eq_getElem (by omega)⟩
  obtain ⟨lb, loff, rfl, hlb, -⟩ := hlc 0 x0 hx0
  have hcell : ∀ (j : Nat) (n : Int), x[j]? = some n → w.cell? ⟨lb, loff + j, none⟩ = some (.int .i64 n) := fun j n hj => by
    obtain ⟨b, off, h, -, hc⟩ := hlc j n hj
    cases h
    exact hc
  clear hlc
  have hst : RM w lb loff x (none0 (x.take 0)) (.slice none 0 0) w := ⟨Below.refl _ _, ⟨[], World.ownsRow_nil _ _ _ _, fun j c h => by simp [none0] at h⟩, hcell, hlb⟩
  have HST := Lib.hid hst; clear hst
  have hX := Lib.hid hx; clear hx
  clear hx0 hcell
  have hln : (x.length : Int) ≤ 60 := by omega
  have hln1 : (1 : Int) ≤ x.length := by omega
  go_enter Try.func9, Try.ntmps9
  go_wp2_with fail
  go_loopw [8, 30] (fun v i wr => RRel0 w lb loff x v i wr) (fun _ i _ => x.length - (intOf i).toNat)
  case atStart => exact ⟨0, _, rfl, by omega, rfl, HST.out⟩
  case round =>
    obtain ⟨m, v, rfl, hm, rfl, hrm⟩ := hrel
    have HRM := Lib.hid hrm
    obtain ⟨hb, ⟨rows, hown, hrows⟩, hcells, -⟩ := hrm
    have hsz := hb.size
    have HROWS := Lib.hid hrows; clear hrows hb
    by_cases hlt : m < x.length
    · obtain ⟨n, hn⟩ : ∃ n, x[m]? = some n := ⟨_, List.getElem?_eq_getElem hlt⟩
      have hci := hcells m n hn
      obtain ⟨n1, n2⟩ := hX.out m n hn
      have HS := Lib.hid (none0_snoc x m n hn)
      have hlm : (none0 (x.take m)).length ≤ 60 := by rw [none0_len, List.length_take]; omega
      clear hn hcells
      generalize none0 (x.take m) = cs at hown HROWS HRM hlm HS
      go_wp2_with (at_builtin
                   refine appL [.slice (some ⟨wr.heap.size, 0, none⟩) 1 1] rfl _ _ 25 22 rfl (.slice none 0 0) 24 w.heap.size cs.length Try.underlying25 row_info rfl v _ rfl (hown.alloc _) _ 1 rfl (by simp) rfl one_cell (by simp only [List.length_singleton]; omega) (by simp only [List.length_singleton]; omega) (by simp; omega) ?_)
      intro v' w' ho' hg' hb'
      have hrm' := HRM.out.one hown HROWS.out [-n] (by simp) ho' hg' hb'
      have HRM' := Lib.hid hrm'
      clear ho' hg' hb' hown
      go_wp2
      go_roundw
      case rel => exact ⟨m + 1, _, rfl, by omega, by go_num, by rw [HS.out]; exact HRM'.out⟩
      case measure => simp [intOf]; omega
    · have hml : m = x.length := by omega
      have htk : x.take m = x := List.take_of_length_le (by omega)
      have HTK := Lib.hid htk
      have HML := Lib.hid hml; clear hml hcells htk hown
      go_wp2
      go_ret2
      exact ⟨_, rfl, by have := HRM.out.2.1; rw [HTK.out] at this; exact this, HRM.out.1⟩
end Go.Proofs.Ytfgoalgfpcalgaa
