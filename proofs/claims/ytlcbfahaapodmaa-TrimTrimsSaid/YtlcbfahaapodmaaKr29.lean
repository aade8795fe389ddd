/-
  Layer 29: the answer's work in memory. Own work.
-/
import Derived.Test.YtlcbfahaapodmaaRr29
import Derived.Test.YtlcbfahaapodmaaSa29
import Derived.Deep.RegionLaw
import Derived.Maps.AppendAt
namespace Go.Proofs.Ytlcbfahaapodmaa
set_option linter.unusedVariables false
set_option linter.unusedSimpArgs false
open Go.RowKit

/-- all but P's blocks are the same -/
def KeepW (P : Nat → Prop) (w wx : World) : Prop := ∀ b, b < w.heap.size → ¬ P b → wx.heap[b]? = w.heap[b]?
theorem KeepW.refl (P : Nat → Prop) (w : World) : KeepW P w w := fun _ _ _ => rfl
theorem KeepW.of {P : Nat → Prop} {w wx : World} {row : Option Nat} (h : w.grownBy wx row) (hr : ∀ b, row = some b → P b) : KeepW P w wx := fun b hb hp => h.block b hb (fun e => hp (hr b e.symm))
theorem KeepW.cell {P : Nat → Prop} {w wx : World} (h : KeepW P w wx) {p : Addr} {x : Value} (hp : ¬ P p.block) (hc : w.cell? p = some x) : wx.cell? p = some x :=
  (World.cell?_of_block (h p.block (World.block_lt_of_cell? w _ hc) hp)).trans hc
/-- a row of numbers outside of P -/
def Rd1 (w : World) (P : Nat → Prop) (r : Value) (d : List Int) : Prop :=
  ∃ a c, r = .slice a d.length c ∧ d.length ≤ c ∧ c ≤ 9223372036854775807 ∧ (a = none → c = 0) ∧ ∀ (j : Nat) n, d[j]? = some n → ∃ b, a = some b ∧ ¬ P b.block ∧ w.cell? (b.add j) = some (.int .i64 n)
/-- rows of numbers outside of P -/
def RdK (w : World) (P : Nat → Prop) (v : Value) (cs : List (List Int)) : Prop :=
  ∃ (a : Option Addr) (c : Nat) (rows : List Value), v = .slice a cs.length c ∧ cs.length ≤ c ∧ c ≤ 9223372036854775807 ∧ rows.length = cs.length ∧ (∀ (j : Nat) u, rows[j]? = some u → ∃ b, a = some b ∧ ¬ P b.block ∧ w.cell? (b.add j) = some u) ∧
    ∀ (j : Nat) d, cs[j]? = some d → ∃ r, rows[j]? = some r ∧ Rd1 w P r d
section
variable {w wx : World} {P P' : Nat → Prop} {v r : Value} {cs : List (List Int)} {d : List Int}
theorem addB (b : Addr) (j : Nat) : (b.add j).block = b.block := by unfold Addr.add; split <;> rfl
theorem Rd1.keep (h : Rd1 w P r d) (hk : KeepW P w wx) : Rd1 wx P r d := by
  obtain ⟨a, c, e, h1, h2, h0, h3⟩ := h
  refine ⟨a, c, e, h1, h2, h0, fun j n hj => ?_⟩
  obtain ⟨b, e2, h4, h5⟩ := h3 j n hj
  exact ⟨b, e2, h4, hk.cell (by rw [addB]; exact h4) h5⟩
theorem Rd1.less (h : Rd1 w P r d) (hp : ∀ b, P' b → P b ∨ w.heap.size ≤ b) : Rd1 w P' r d := by
  obtain ⟨a, c, e, h1, h2, h0, h3⟩ := h
  refine ⟨a, c, e, h1, h2, h0, fun j n hj => ?_⟩
  obtain ⟨b, e2, h4, h5⟩ := h3 j n hj
  refine ⟨b, e2, fun hb => ?_, h5⟩
  have h6 := World.block_lt_of_cell? w _ h5
  rw [addB] at h6
  rcases hp _ hb with h | h
  · exact h4 h
  · omega
theorem Rd1.reads (h : Rd1 w P r d) : Reads w iV r d := by
  obtain ⟨a, c, e, h1, h2, h0, h3⟩ := h
  cases a with
  | none =>
    have hc := h0 rfl
    have hd : d = [] := List.eq_nil_of_length_eq_zero (by omega)
    subst hd hc
    exact .inl ⟨e, rfl⟩
  | some a =>
    refine .inr ⟨a, c, e, h1, h2, fun j x hj => ?_⟩
    obtain ⟨b, e2, _, h5⟩ := h3 j x hj
    cases e2
    exact h5
theorem Rd1.nil : Rd1 w P (.slice none 0 0) [] := ⟨none, 0, rfl, Nat.le_refl _, by omega, fun _ => rfl, fun j n hj => by simp at hj⟩
/-- a row that came in, whatever P from its world's end on -/
theorem Rd1.of (h : Reads w iV r d) (hp : ∀ b, P b → w.heap.size ≤ b) : Rd1 w P r d := by
  rcases h with ⟨rfl, rfl⟩ | ⟨a, c, e, h1, h2, h3⟩
  · exact Rd1.nil
  · refine ⟨some a, c, e, h1, h2, fun e => (by cases e), fun j n hj => ⟨a, rfl, fun hb => ?_, h3 j n hj⟩⟩
    have h6 := World.block_lt_of_cell? w _ (h3 j n hj)
    rw [addB] at h6
    have := hp _ hb
    omega
theorem Rd1.own {n : Nat} {n0 : Nat} (h : w.ownsRow n0 3 1 r n (d.map iV)) (hp : ∀ b, r.ownBlock = some b → ¬ P b) : Rd1 w P r d := by
  rcases RdO.of h with ⟨⟨a, rfl⟩, hx⟩ | ⟨g, cap, rfl, _, h1, h2, h4⟩
  · have hd : d = [] := List.map_eq_nil_iff.1 hx
    subst hd
    exact ⟨a, 0, rfl, Nat.le_refl _, by omega, fun _ => rfl, fun j n hj => by simp at hj⟩
  · rw [List.length_map] at h1 hp ⊢
    refine ⟨some ⟨g, 0, none⟩, cap, rfl, h1, by unfold maxLen at h2; exact h2, fun e => (by cases e), fun j n hj => ⟨_, rfl, hp g rfl, ?_⟩⟩
    have e : (⟨g, 0, none⟩ : Addr).add j = ⟨g, j, none⟩ := by unfold Addr.add; split <;> simp_all
    rw [e]
    exact (h4 j (iV n) (by rw [List.getElem?_map, hj]; rfl)).1
theorem RdK.keep (h : RdK w P v cs) (hk : KeepW P w wx) : RdK wx P v cs := by
  obtain ⟨a, c, rows, e, h1, h2, h3, h4, h5⟩ := h
  refine ⟨a, c, rows, e, h1, h2, h3, fun j u hu => ?_, fun j d hj => ?_⟩
  · obtain ⟨b, e2, k1, k2⟩ := h4 j u hu
    exact ⟨b, e2, k1, hk.cell (by rw [addB]; exact k1) k2⟩
  · obtain ⟨r, k1, k2⟩ := h5 j d hj
    exact ⟨r, k1, k2.keep hk⟩
theorem RdK.less (h : RdK w P v cs) (hp : ∀ b, P' b → P b ∨ w.heap.size ≤ b) : RdK w P' v cs := by
  obtain ⟨a, c, rows, e, h1, h2, h3, h4, h5⟩ := h
  refine ⟨a, c, rows, e, h1, h2, h3, fun j u hu => ?_, fun j d hj => ?_⟩
  · obtain ⟨b, e2, k1, k2⟩ := h4 j u hu
    refine ⟨b, e2, fun hb => ?_, k2⟩
    have h6 := World.block_lt_of_cell? w _ k2
    rw [addB] at h6
    rcases hp _ hb with h | h
    · exact k1 h
    · omega
  · obtain ⟨r, k1, k2⟩ := h5 j d hj
    exact ⟨r, k1, k2.less hp⟩
theorem RdK.reads2 (h : RdK w P v cs) : Reads2 w v cs := by
  obtain ⟨a, c, rows, e, h1, h2, h3, h4, h5⟩ := h
  refine ⟨a, c, e, by omega, fun j d hj => ?_⟩
  obtain ⟨r, k1, k2⟩ := h5 j d hj
  obtain ⟨b, e2, _, k3⟩ := h4 j r k1
  exact ⟨b, r, e2, k3, k2.reads⟩
/-- headers in a row of one's own -/
theorem RdK.own {n0 : Nat} {hs : List Value} (h : w.ownsRow n0 27 1 v cs.length hs) (hp : ∀ b, v.ownBlock = some b → ¬ P b) (hl : hs.length = cs.length) (hr : ∀ (j : Nat) d, cs[j]? = some d → ∃ r, hs[j]? = some r ∧ Rd1 w P r d) : RdK w P v cs := by
  rcases RdO.of h with ⟨⟨a, rfl⟩, hx⟩ | ⟨g, cap, rfl, _, h1, h2, h4⟩
  · subst hx
    have h0 : cs.length = 0 := by rw [← hl]; rfl
    refine ⟨a, 0, [], by rw [h0], by omega, by omega, hl, fun j u hu => by simp at hu, fun j d hj => ?_⟩
    rw [List.eq_nil_of_length_eq_zero h0] at hj
    simp at hj
  · refine ⟨some ⟨g, 0, none⟩, cap, hs, by rw [hl], by omega, by unfold maxLen at h2; exact h2, hl, fun j u hu => ⟨_, rfl, hp g rfl, ?_⟩, hr⟩
    have e : (⟨g, 0, none⟩ : Addr).add j = ⟨g, j, none⟩ := by unfold Addr.add; split <;> simp_all
    rw [e]
    exact (h4 j u hu).1
theorem Rd1.one (h : Rd1 w P r d) : r.oneCell' = true := by
  obtain ⟨a, c, rfl, _⟩ := h
  rfl
end
/-- an append of whatever number of one-cell elements, at a step of a region that draws -/
theorem step_append_at {ops : Array Oper} {o : Oper} {a : Act} {w : World} {K : Act → World → Prop} {Q : Exit → Act → World → Prop} {E : Prop} (hgd : o.guard = none) (s x : Operand) (t : TypeId)
    (ho : o.op = .call { callee := .builtin .append, args := #[s, x], argTypes := #[t, t] })
    (base : Nat) (e : TypeId) (i : TypeInfo) (z : Value) (size bytes : Nat) (ht : Try.prog.underlying t = some (.slice e)) (hi : Try.prog.info? e = some i) (hz : i.zero = some z)
    (hsize : i.size = size) (hby : i.bytes = bytes) (hzs : z.cells.size = size) (hsz : 0 < size)
    (v : Value) (n : Nat) (xs : List Value) (hs : a.eval s = v) (hown : w.ownsRow base e size v n xs)
    (ad : Addr) (m c : Nat) (news : List Value) (hx : a.eval x = .slice (some ad) m c) (hl : news.length = m * size) (hnews : ∀ j u, news[j]? = some u → w.cell? (ad.add j) = some u) (h1 : ∀ u ∈ news, u.oneCell' = true)
    (h63 : n + m ≤ maxLen) (hbytes : (n + m) * bytes ≤ 140737488355328) (hbase : base ≤ w.heap.size)
    (h : ∀ v' w', w'.ownsRow base e size v' (n + m) (xs ++ news) → w.grownBy w' v.ownBlock → (v'.ownBlock = v.ownBlock ∨ v'.ownBlock = some w.heap.size) → K (a.put o.dst v') w') :
    if Region.wanted o (yielded ops a.tmps) = true then Oper.wp Try.prog o a w K Q else E := by
  have hw : Region.wanted o (yielded ops a.tmps) = true := by simp [Region.wanted, hgd]
  rw [if_pos hw]
  obtain ⟨v', w', hr, h2, h3, h4, h5⟩ := run_append_own_at (P := Try.prog) w base t o.type e i z size bytes ht hi hz hsize hby hzs hsz v n xs hown ad m c news hl hnews h1 h63 hbytes hbase
  unfold Oper.wp execOp
  simp only [ho, resolve, invoke, builtin, Sem.run_bind, Sem.run_pure, Result.andThen_ok, List.map_toArray, List.map_cons, List.map_nil, hs, hx, hr]
  exact h v' w' h2 h3 h5
section
set_option maxRecDepth 100000 in
set_option maxHeartbeats 1000000 in
theorem has29_any (cv : Value) (c : List Int) (n : Int) (w : World) (hc : Reads w iV cv c) :
    Calls Try.prog 31 #[cv, .int .i64 n] w fun e w' => e = .returned (.bool (decide (n ∈ c))) ∧ w' = w := by
  obtain ⟨a, cp, rfl, hl, hel⟩ := reads_shape hc
  have HE := Lib.hid hel
  have hlI : (c.length : Int) ≤ 9223372036854775807 := by omega
  clear hel hl hc
  go_enter Try.func31, Try.ntmps31
  go_wp2_with fail
  go_loop [9] (fun i => ∃ j : Nat, j ≤ c.length ∧ i = .int .i64 j ∧ n ∉ c.take j) (fun i => c.length - (intOf i).toNat)
  case atStart => exact ⟨0, by omega, rfl, by simp⟩
  case round =>
    obtain ⟨j, hj, rfl, hh⟩ := hrel
    have HH := Lib.hid hh
    clear hh
    by_cases hlt : j < c.length
    · obtain ⟨x, hx⟩ : ∃ x, c[j]? = some x := ⟨_, List.getElem?_eq_getElem hlt⟩
      obtain ⟨b, rfl, hcb⟩ := HE.out j x hx
      have hcb' : w.cell? (b.add j) = some (.int .i64 x) := hcb
      have hjI : (j : Int) < (c.length : Int) := by omega
      have HX := Lib.hid hx
      clear hcb hx
      by_cases hxn : x = n
      · have hb : (x == n) = true := by simp [hxn]
        have HV := Lib.hid (show decide (n ∈ c) = true from decide_eq_true (by rw [← hxn]; exact List.mem_of_getElem? HX.out))
        clear hxn
        go_wp2
        go_ret
        exact ⟨ret_bool HV.out.symm, rfl⟩
      · have hb : (x == n) = false := by simpa using hxn
        have HN := Lib.hid (show n ∉ c.take (j + 1) from by
          rw [take_snoc _ j x HX.out]
          intro hm
          rcases List.mem_append.1 hm with hm | hm
          · exact HH.out hm
          · exact hxn (List.mem_singleton.1 hm).symm)
        clear hxn
        go_wp2
        go_round
        case rel => exact ⟨j + 1, by omega, by go_num, HN.out⟩
        case measure => simp [intOf]; omega
    · have hle : (c.length : Int) ≤ j := by omega
      have HV := Lib.hid (show decide (n ∈ c) = false from decide_eq_false (by have := HH.out; rw [List.take_of_length_le (by omega)] at this; exact this))
      go_wp2
      go_ret
      exact ⟨ret_bool HV.out.symm, rfl⟩
end
end Go.Proofs.Ytlcbfahaapodmaa
