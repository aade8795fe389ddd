/-
  Layer 16: the walk of visit. Own work.
-/
import Derived.Test.YtmiiclhhenepiaaVm16
namespace Go.Proofs.Ytmiiclhhenepiaa
set_option linter.unusedVariables false
set_option linter.unusedSimpArgs false
open Go.RowKit Go.WideElems Go.MapKept

def fT : Tg → Prop := fun t => t ≠ .free
/-- what visit leaves -/
structure VisR (L : List (List Nat)) (A B G P : Nat → Prop) (lit : Nat) (M : Mm) (S : St) (n0 : Nat) (w : World) (b : Bool) (w' : World) (M' : Mm) (S' : St) : Prop where
  ks : KS w' n0 M' S' noT
  frm : Frm M M' fT w w'
  safe : Safe S' S'.wat
  lg : Lg L A B G S'
  pre : ∃ ext, S'.trail = S.trail ++ ext
  vs : S'.vs = S.vs
  head : S'.head = S.head
  broken : S'.broken = S.broken
  len : S'.list.length = S.list.length
  yes : b = true → ∀ (n : Nat) c, S'.list[n]? = some c → Wp ng (And1 P (ng lit)) (fun x => x ∈ S'.trail) c
  no : b = false → Conf ng L A
def VisP (L : List (List Nat)) (A B G P : Nat → Prop) (lit : Nat) (M : Mm) (S : St) (n0 : Nat) (w : World) (e : Ending) (w' : World) : Prop :=
  ∃ b M' S', e = .returned (.bool b) ∧ VisR L A B G P lit M S n0 w b w' M' S'
/-- the row that is gone through: its first cells are what is kept -/
def RowB (w : World) (b0 cap : Nat) (row kp : List Nat) (i : Nat) : Prop :=
  ∃ cur : Array Value, w.heap[b0]? = some (.cells cur 3 (0, 0)) ∧ cur.size = cap ∧ cur.toList.take kp.length = kp.map cv ∧ ∀ j, i ≤ j → j < row.length → cur[j]? = (row.map cv)[j]?
/-- on the way -/
structure VL (L : List (List Nat)) (A B G P : Nat → Prop) (lit : Nat) (M : Mm) (S : St) (n0 : Nat) (w : World) (row : List Nat) (b0 cap i : Nat) (kp : List Nat) (wr : World) (M1 : Mm) (S1 : St) : Prop where
  ks : KS wr n0 M1 S1 (fun t => t = .row lit)
  vi : VI L A B G P S lit row i kp S1
  frm : Frm M M1 fT w wr
  rb : RowB wr b0 cap row kp i
  tg : M1.tag b0 = .row lit
theorem VI.start {L : List (List Nat)} {A B G P : Nat → Prop} {S : St} {lit : Nat} (hs : Safe S S.wat) (hl : Lg L A B G S) (hw : ∀ (n : Nat) c, S.list[n]? = some c → Wp ng P (fun x => x ∈ S.trail) c) (hlt : ng lit ∈ S.trail) (hp : ∀ x, P x → x ∈ S.trail) : VI L A B G P S lit (S.wat lit) 0 [] S := by
  have e : putW S.wat lit ([] ++ (S.wat lit).drop 0) = S.wat := by
    funext y
    unfold putW
    by_cases h : lit = y
    · rw [if_pos h, h]; rfl
    · rw [if_neg h]
  refine ⟨by rw [e]; exact hs, hl, fun n c hc => ⟨fun _ => hw n c hc, fun hn => ?_⟩, hlt, hp, ⟨[], by simp⟩, rfl, rfl, rfl, rfl, by simp⟩
  have h0 := hw n c hc
  obtain ⟨_, a, b, r, rfl, _⟩ := id h0
  have hn2 : n ∉ S.wat lit := hn
  exact wp_other ng_ng h0 (fun e => hn2 ((hs.wt lit n).2 ⟨a, b, r, hc, .inl e⟩)) (fun e => hn2 ((hs.wt lit n).2 ⟨a, b, r, hc, .inr e⟩))
section
variable {L : List (List Nat)} {A B G P : Nat → Prop} {lit : Nat} {M M1 : Mm} {S S1 : St} {n0 : Nat} {w wr : World} {row kp : List Nat} {b0 cap i n : Nat}
theorem VL.cell (h : VL L A B G P lit M S n0 w row b0 cap i kp wr M1 S1) (hr : row[i]? = some n) : wr.cell? ⟨b0, i, none⟩ = some (.int .i64 (n : Int)) := by
  obtain ⟨cur, h1, _, _, h2⟩ := h.rb
  rw [cell_of_row wr b0 i cur _ (0, 0) h1, h2 i (Nat.le_refl _) (List.getElem?_eq_some_iff.1 hr).1]
  exact map_get hr
/-- a step that leaves the row alone -/
theorem RowB.kept {w' : World} (h : RowB wr b0 cap row kp i) (hg : w'.heap[b0]? = wr.heap[b0]?) : RowB w' b0 cap row kp i := by
  obtain ⟨cur, h1, h2⟩ := h
  exact ⟨cur, hg.trans h1, h2⟩
theorem RowB.lt (h : RowB wr b0 cap row kp i) : b0 < wr.heap.size := by
  obtain ⟨cur, h1, h2⟩ := h
  exact (Array.getElem?_eq_some_iff.1 h1).1
theorem RowB.next (h : RowB wr b0 cap row kp i) : RowB wr b0 cap row kp (i + 1) := by
  obtain ⟨cur, h1, h2, h3, h4⟩ := h
  exact ⟨cur, h1, h2, h3, fun j hj => h4 j (by omega)⟩
/-- two cells of a clause's row -/
theorem two_row16 {w : World} {base g cap L x y j k : Nat} {c d : List Nat} (h : w.ownsRow base 3 1 (.slice (some ⟨g, 0, none⟩) L cap) L (c.map cv)) (hd : (c.set j x).set k y = d) :
    ((w.setCell ⟨g, j, none⟩ (.int .i64 (x : Int))).setCell ⟨g, k, none⟩ (.int .i64 (y : Int))).ownsRow base 3 1 (.slice (some ⟨g, 0, none⟩) L cap) L (d.map cv) ∧ w.grownBy ((w.setCell ⟨g, j, none⟩ (.int .i64 (x : Int))).setCell ⟨g, k, none⟩ (.int .i64 (y : Int))) (some g) := by
  obtain ⟨h1, h2⟩ := h.stored j (cv x)
  obtain ⟨h3, h4⟩ := h1.stored k (cv y)
  refine ⟨?_, h2.trans h4⟩
  rw [← hd, List.map_set, List.map_set]
  exact h3
theorem grown_drew (w : World) : w.grownBy w.drew none := ⟨rfl, rfl, rfl, Nat.le_refl _, fun _ _ _ => rfl⟩
/-- the world goes on, the row stays -/
theorem VL.onto {w' : World} {r : Option Nat} (h : VL L A B G P lit M S n0 w row b0 cap i kp wr M1 S1) (hg : wr.grownBy w' r) (hr : ∀ b, r = some b → M1.tag b ≠ .free ∧ M1.tag b ≠ .row lit) (hk : KS w' n0 M1 S1 (fun t => t = .row lit)) : VL L A B G P lit M S n0 w row b0 cap i kp w' M1 S1 :=
  ⟨hk, h.vi, h.frm.trans (Frm.of hg (fun b hb => (hr b hb).1)), h.rb.kept (hg.block b0 h.rb.lt (fun e => (hr b0 e.symm).2 h.tg)), h.tg⟩
theorem VL.quiet {w' : World} (h : VL L A B G P lit M S n0 w row b0 cap i kp wr M1 S1) (hg : wr.grownBy w' none) : VL L A B G P lit M S n0 w row b0 cap i kp w' M1 S1 :=
  h.onto hg (fun b hb => by cases hb) (h.ks.keep0 hg)
theorem VL.swapped {a b : Nat} {r : List Nat} {g capc Lc : Nat} (hL : (a :: b :: r).length = Lc) (h : VL L A B G P lit M S n0 w row b0 cap i kp wr M1 S1) (hr : row[i]? = some n) (hc : S1.list[n]? = some (a :: b :: r)) (hv : M1.lv[n]? = some (.slice (some ⟨g, 0, none⟩) Lc capc))
    (ho : wr.ownsRow n0 3 1 (.slice (some ⟨g, 0, none⟩) Lc capc) Lc ((a :: b :: r).map cv)) :
    ({ S1 with list := S1.list.set n (b :: a :: r) } : St).list[n]? = some (b :: a :: r) ∧ VL L A B G P lit M S n0 w row b0 cap i kp ((wr.setCell ⟨g, 0, none⟩ (.int .i64 (b : Int))).setCell ⟨g, 1, none⟩ (.int .i64 (a : Int))).drew M1 { S1 with list := S1.list.set n (b :: a :: r) } := by
  subst hL
  have hst := two_row16 ho (j := 0) (k := 1) (x := b) (y := a) (d := b :: a :: r) rfl
  have htg := h.ks.tc n _ g hv rfl
  refine ⟨List.getElem?_set_self (List.getElem?_eq_some_iff.1 hc).1, ?_, h.vi.swap hr hc, ?_, ?_, h.tg⟩
  · have e1 := h.ks.keep (ex' := orT (fun t => t = .row lit) (.cl n)) hst.2 (fun t _ hx => hx.elim .inl (fun ⟨b, hb, ht⟩ => .inr (by rw [← ht, ← Option.some.inj hb]; exact htg)))
    have e2 := e1.fillCl hc hv (d := b :: a :: r) (by simpa using hst.1)
    exact (e2.less (fun t ht => ht.1.elim id (fun e => absurd e ht.2))).drew
  · exact h.frm.trans ((Frm.of hst.2 (fun b hb => by rw [← Option.some.inj hb, htg]; simp [fT])).trans (Frm.of (grown_drew _) (fun b hb => by cases hb)))
  · refine h.rb.kept ?_
    exact hst.2.block b0 h.rb.lt (fun e => by rw [← Option.some.inj e, h.tg] at htg; cases htg)
theorem VL.moved {w' : World} {M' : Mm} {a x : Nat} {r r1 r2 : List Nat} (h : VL L A B G P lit M S n0 w row b0 cap i kp wr M1 S1) (hr : row[i]? = some n) (hc : S1.list[n]? = some (a :: lit :: r)) (hr12 : r = r1 ++ x :: r2) (hx : S1.tk (ng x) = false)
    (hk : KS w' n0 M' { S1 with list := S1.list.set n (a :: x :: (r1 ++ lit :: r2)), wat := putW S1.wat x (S1.wat x ++ [n]) } (fun t => t = .row lit)) (hf : Frm M1 M' (mvT lit) wr w') :
    VL L A B G P lit M S n0 w row b0 cap (i + 1) kp w' M' { S1 with list := S1.list.set n (a :: x :: (r1 ++ lit :: r2)), wat := putW S1.wat x (S1.wat x ++ [n]) } := by
  subst hr12
  have hb := h.rb.lt
  refine ⟨hk, h.vi.move hr hc hx, h.frm.trans (hf.mono (fun t ht => ?_)), (h.rb.kept (hf.block b0 hb (fun ht => ?_))).next, (hf.tags b0 hb).trans h.tg⟩
  · rcases ht with rfl | ⟨n, rfl⟩ | ⟨x, _, rfl⟩ <;> simp [fT]
  · rw [h.tg] at ht
    rcases ht with h | ⟨n, h⟩ | ⟨x, h1, h⟩
    · cases h
    · cases h
    · cases h
      exact h1 rfl
/-- one number more that is kept, in its place -/
theorem appB {ops : Array Oper} {rest : List Oper} {o : Oper} {a : Act} {Q : Exit → Act → World → Prop} (hgd : o.guard = none) (s x : Operand)
    (ho : o.op = .call { callee := .builtin .append, args := #[s, x], argTypes := #[31, 31] }) (h : RowB wr b0 cap row kp i) (hsv : a.eval s = .slice (some ⟨b0, 0, none⟩) kp.length cap) (hx : a.eval x = .slice (some ⟨wr.heap.size, 0, none⟩) 1 1)
    (hk : kp.length ≤ i) (hi : i < row.length) (hc : row.length ≤ cap)
    (hK : ∀ w', RowB w' b0 cap row (kp ++ [n]) (i + 1) → wr.grownBy w' (some b0) → wpList Try.prog ops Q rest (a.put o.dst (.slice (some ⟨b0, 0, none⟩) (kp.length + 1) cap)) w') :
    wpList Try.prog ops Q (o :: rest) a (wr.alloc (.cells #[.int .i64 (n : Int)] 3)) := by
  obtain ⟨ii, hi2, hz, hsize, hby⟩ := info_parts int16_info
  have hb := h.lt
  obtain ⟨cur, h1, h2, h3, h4⟩ := h
  have h1' : (wr.alloc (.cells #[.int .i64 (n : Int)] 3)).heap[b0]? = some (.cells cur 3 (0, 0)) := (Below.heap_alloc _ _ _ hb).trans h1
  refine wpList_plain hgd fun K' hK' => ?_
  have hr := run_append_room (P := Try.prog) (wr.alloc (.cells #[.int .i64 (n : Int)] 3)) 31 o.type 3 ii Try.underlying31 hi2 b0 kp.length cap cur h1' ⟨wr.heap.size, 0, none⟩ 1 1 [cv n] (by rw [hsize]; rfl) (cell_one_new wr _ _) (by simp [Value.oneCell', cv]) (by omega) (by rw [hsize, h2]; simp; omega)
  rw [hsize] at hr
  unfold Oper.wp execOp
  simp only [ho, resolve, invoke, builtin, Sem.run_bind, Sem.run_pure, Result.andThen_ok, List.map_toArray, List.map_cons, List.map_nil, hsv, hx, hr]
  have hcl : cur.toList.length = cap := by simpa using h2
  refine hK' _ _ (hK _ ⟨_, setRow_heap _ b0 cur _ _ _ h1', ?_, ?_, fun j hj hj2 => ?_⟩ ⟨rfl, rfl, rfl, by simp, fun k hk hne => (setRow_other _ b0 k _ (fun e => hne (by rw [e]))).trans (Below.heap_alloc _ _ _ hk)⟩)
  · simp only [List.size_toArray, List.length_append, List.length_take, List.length_drop, hcl, List.length_singleton]
    omega
  · have e1 : (cur.toList.take (kp.length * 1)).length = kp.length := by rw [List.length_take, hcl]; omega
    rw [List.length_append, List.length_singleton, List.map_append]
    show List.take _ (cur.toList.take (kp.length * 1) ++ [cv n] ++ _) = _
    rw [List.take_append_of_le_length (by rw [List.length_append, e1]; simp), List.take_of_length_le (by rw [List.length_append, e1]; simp), Nat.mul_one, h3]
    rfl
  · rw [← h4 j (by omega) hj2]
    have e1 : (cur.toList.take (kp.length * 1)).length = kp.length := by rw [List.length_take, hcl]; omega
    show (cur.toList.take (kp.length * 1) ++ [cv n] ++ cur.toList.drop (kp.length * 1 + [cv n].length)).toArray[j]? = _
    rw [List.getElem?_toArray, List.getElem?_append_right (by rw [List.length_append, e1]; simp; omega), List.getElem?_drop, List.length_append, e1]
    simp only [List.length_singleton, Nat.mul_one]
    rw [show kp.length + 1 + (j - (kp.length + 1)) = j by omega, Array.getElem?_toList]
/-- the rest of the row behind what is kept, in its place -/
theorem step_appC {ops : Array Oper} {E : Prop} {o : Oper} {a : Act} {K : Act → World → Prop} {Q : Exit → Act → World → Prop} (hgd : o.guard = none) (s x : Operand)
    (ho : o.op = .call { callee := .builtin .append, args := #[s, x], argTypes := #[31, 31] }) (h : RowB wr b0 cap row kp i) (ad : Addr) (c k : Nat) (hsv : a.eval s = .slice (some ⟨b0, 0, none⟩) k cap) (hk2 : k = kp.length) (hx : a.eval x = .slice (some ad) (row.length - i) c)
    (hk : kp.length ≤ i) (hi : i ≤ row.length) (hc : row.length ≤ cap) (hcm : cap ≤ maxLen) (had : i < row.length → ad = ⟨b0, i, none⟩) (hb : n0 ≤ b0)
    (hK : ∀ len w', len = (kp ++ row.drop i).length → w'.ownsRow n0 3 1 (.slice (some ⟨b0, 0, none⟩) (kp ++ row.drop i).length cap) (kp ++ row.drop i).length ((kp ++ row.drop i).map cv) → wr.grownBy w' (some b0) → K (a.put o.dst (.slice (some ⟨b0, 0, none⟩) len cap)) w') :
    if Region.wanted o (yielded ops a.tmps) = true then Oper.wp Try.prog o a wr K Q else E := by
  have hw : Region.wanted o (yielded ops a.tmps) = true := by simp [Region.wanted, hgd]
  rw [if_pos hw]
  subst hk2
  obtain ⟨ii, hi2, hz, hsize, hby⟩ := info_parts int16_info
  obtain ⟨cur, h1, h2, h3, h4⟩ := h
  have hnl : ((row.drop i).map cv).length = row.length - i := by simp
  have hcl : cur.toList.length = cap := by simpa using h2
  have hr := run_append_room (P := Try.prog) wr 31 o.type 3 ii Try.underlying31 hi2 b0 kp.length cap cur h1 ad (row.length - i) c ((row.drop i).map cv) (by rw [hsize, hnl, Nat.mul_one]) (fun j u hj => by
    have hj2 := (List.getElem?_eq_some_iff.1 hj).1
    rw [hnl] at hj2
    rw [had (by omega)]
    have e : (⟨b0, i, none⟩ : Addr).add j = ⟨b0, i + j, none⟩ := by unfold Addr.add; split <;> simp_all
    rw [e, cell_of_row wr b0 (i + j) cur _ (0, 0) h1, h4 (i + j) (by omega) (by omega)]
    rw [List.getElem?_map, List.getElem?_drop] at hj
    rw [List.getElem?_map]
    exact hj) (fun u hu => by
    obtain ⟨y, _, rfl⟩ := List.mem_map.1 hu
    rfl) (by omega) (by rw [hsize, h2, hnl]; omega)
  rw [hsize] at hr
  unfold Oper.wp execOp
  simp only [ho, resolve, invoke, builtin, Sem.run_bind, Sem.run_pure, Result.andThen_ok, List.map_toArray, List.map_cons, List.map_nil, hsv, hx, hr]
  have hlen : kp.length + (row.length - i) = (kp ++ row.drop i).length := by simp
  rw [hlen]
  have e1 : (cur.toList.take (kp.length * 1)).length = kp.length := by rw [List.length_take, hcl]; omega
  refine hK _ _ rfl ⟨by simp, .inr ⟨b0, cap, _, rfl, hb, setRow_heap _ b0 cur _ _ _ h1, by rw [← hlen]; omega, hcm, ?_, ?_⟩⟩ ⟨rfl, rfl, rfl, by simp, fun k hk hne => setRow_other _ b0 k _ (fun e => hne (by rw [e]))⟩
  · simp only [List.size_toArray, List.length_append, List.length_take, List.length_drop, hcl, List.length_map]
    omega
  · show List.take _ (cur.toList.take (kp.length * 1) ++ (row.drop i).map cv ++ _) = _
    have e2 : (cur.toList.take (kp.length * 1) ++ (row.drop i).map cv).length = (kp ++ row.drop i).length * 1 := by
      rw [List.length_append, e1, hnl, ← hlen, Nat.mul_one]
    rw [List.take_append_of_le_length (Nat.le_of_eq e2.symm), List.take_of_length_le (Nat.le_of_eq e2), Nat.mul_one, h3, List.map_append]
theorem RowB.own (h : RowB wr b0 cap row kp i) (hb : n0 ≤ b0) (hk : kp.length ≤ cap) (hcm : cap ≤ maxLen) : wr.ownsRow n0 3 1 (.slice (some ⟨b0, 0, none⟩) kp.length cap) kp.length (kp.map cv) := by
  obtain ⟨cur, h1, h2, h3, h4⟩ := h
  exact ⟨by simp, .inr ⟨b0, cap, cur, rfl, hb, h1, hk, hcm, by simpa using h2, by rw [Nat.mul_one]; exact h3⟩⟩
/-- the row is given back -/
theorem close16 {P0 : St} {l : List Nat} {cp len : Nat} (hlen : len = l.length) (hk : KS wr n0 M1 S1 (fun t => t = .row lit)) (hf : Frm M M1 fT w wr) (hvi : VI L A B G P P0 lit row i kp S1) (ho : wr.ownsRow n0 3 1 (.slice (some ⟨b0, 0, none⟩) l.length cp) l.length (l.map cv)) (htg : M1.tag b0 = .row lit)
    (hl : l = kp ++ row.drop i) (hlt : lit < 2 * S1.vs.length) (hb : S1.vs.length ≤ 100000) :
    ∃ w3 M3, (Instr.mapUpdate 50 (.map (some M1.bW)) (.int .i64 (lit : Int)) (.slice (some ⟨b0, 0, none⟩) len cp)).run Try.prog wr = .ok () w3 ∧ wr.grownBy w3 (some M1.bW) ∧
      KS w3 n0 M3 { S1 with wat := putW S1.wat lit l } noT ∧ Frm M M3 fT w w3 ∧ Safe { S1 with wat := putW S1.wat lit l } (putW S1.wat lit l) := by
  subst hlen
  have hex : ∀ t, t ≠ .row lit → ¬ (fun t => t = Tg.row lit) t := fun t h => h
  obtain ⟨w3, hu, hs3, hg3⟩ := (hk.wat (hex _ (by simp))).put hlt (by omega) (u := .slice (some ⟨b0, 0, none⟩) l.length cp) (.inr ⟨_, _, _, rfl⟩)
  have hk3 := hk.keep (ex' := orT (fun t => t = .row lit) .wat) hg3 (fun t _ hx => hx.elim .inl (fun ⟨b, hb, ht⟩ => .inr (by rw [← ht, ← Option.some.inj hb]; exact hk.tW)))
  have hk4 := hk3.fillWat (x := lit) (l := l) (v := .slice (some ⟨b0, 0, none⟩) l.length cp) hs3 (ho.kept hg3 (.inr (fun e => by
    have e1 := hk.tW
    rw [show M1.bW = b0 from (Option.some.inj e).symm, htg] at e1
    cases e1))) (fun b hb => by cases hb; exact htg)
  refine ⟨w3, _, hu, hg3, hk4.less (fun t ht => ht.1.1.elim (fun e => absurd e ht.2) (fun e => absurd e ht.1.2)), hf.trans (Frm.trans (Frm.of hg3 (fun b hb => by rw [← Option.some.inj hb, hk.tW]; simp [fT])) ⟨rfl, rfl, rfl, Nat.le_refl _, fun _ _ _ => rfl, fun _ _ => rfl, rfl, rfl, rfl, rfl⟩), ?_⟩
  have h := hvi.safe
  rw [← hl] at h
  exact ⟨h.tn, h.tr, h.tk, h.hd, h.ln, h.wt, h.wn⟩
theorem Lg.wat (h : Lg L A B G S) (f : Nat → List Nat) : Lg L A B G { S with wat := f } := ⟨h.con, h.der, h.sub, h.all, h.wb, h.bt⟩
end
set_option maxRecDepth 100000 in
set_option maxHeartbeats 4000000 in
theorem visit_row {L : List (List Nat)} {A B G P : Nat → Prop} {lit : Nat} {M : Mm} {S : St} {n0 : Nat} {w : World} (h : KS w n0 M S noT) (hs : Safe S S.wat) (hl : Lg L A B G S) (hw : ∀ (n : Nat) c, S.list[n]? = some c → Wp ng P (fun x => x ∈ S.trail) c)
    (hlt : ng lit ∈ S.trail) (hp : ∀ x, P x → x ∈ S.trail) (hlv : lit < 2 * S.vs.length) (hv : S.vs.length ≤ 100000) (hln : S.list.length ≤ 1000000) (hne : ∃ b0 cap, M.rw lit = .slice (some ⟨b0, 0, none⟩) (S.wat lit).length cap ∧ (S.wat lit).length ≤ cap ∧ cap ≤ maxLen) :
    Calls Try.prog 30 #[.pointer (some ⟨M.K, 0, none⟩), .int .i64 (lit : Int)] w (VisP L A B G P lit M S n0 w) := by
  have HVI := Lib.hid (VI.start hs hl hw hlt hp)
  have hnoT : ∀ t, ¬ noT t := fun t => id
  have hrow := h.row lit (hnoT _)
  obtain ⟨b0, cap, hrv, hcap1, hcap2⟩ := hne
  have hrl := hs.rowLen lit
  generalize hRow : S.wat lit = row at *
  have HROW := Lib.hid hRow
  have hlk := (h.wat (hnoT _)).look (v := lit) (by omega)
  rw [hrv] at hlk hrow
  have hc2 : w.cell? ⟨M.K, 2, none⟩ = some (.map (some M.bW)) := h.cell (hnoT _) 2
  have HVL := Lib.hid (show VL L A B G P lit M S n0 w row b0 cap 0 [] w M S from by
    refine ⟨h.less (fun t ht => absurd ht (hnoT t)), HVI.out, Frm.refl _ _ _, ?_, h.tr lit b0 (by rw [hrv]; rfl)⟩
    rcases hrow.2 with ⟨e, _⟩ | ⟨g, c, cur, e, _, hg, _, _, hc, ht⟩
    · cases e
    · cases e
      refine ⟨cur, hg, by simpa using hc, by simp, fun j _ hj => ?_⟩
      have h1 := congrArg (fun l => l[j]?) ht
      rw [List.getElem?_take, if_pos (by omega), Array.getElem?_toList] at h1
      exact h1)
  have HB := Lib.hid h
  have HCM := Lib.hid hcap2
  have hcapI : (row.length : Int) ≤ (cap : Int) := by omega
  have hcapJ : (cap : Int) ≤ 9223372036854775807 := by unfold maxLen at hcap2; omega
  clear h hs hl hw hlt hp hrow hrv HVI hRow hcap2
  go_enter Try.func30, Try.ntmps30
  go_wp2_with fail
  go_loopw [6, 20] (fun kv iv wr => ∃ (i : Nat) (kp : List Nat) (M1 : Mm) (S1 : St), i ≤ row.length ∧ iv = .int .i64 i ∧ kv = .slice (some ⟨b0, 0, none⟩) kp.length cap ∧ VL L A B G P lit M S n0 w row b0 cap i kp wr M1 S1) (fun _ iv _ => row.length - (intOf iv).toNat)
  case atStart => exact ⟨0, [], M, S, by omega, rfl, rfl, HVL.out⟩
  case round =>
    obtain ⟨i, kp, M1, S1, hi, rfl, rfl, hvl⟩ := hrel
    have HV1 := Lib.hid hvl
    clear hvl HVL hlk hc2
    by_cases hil : i < row.length
    · obtain ⟨n, hn⟩ : ∃ n, row[i]? = some n := ⟨_, List.getElem?_eq_getElem hil⟩
      have hcn := HV1.out.cell hn
      obtain ⟨a0, b1, r0, hlc, hab⟩ := HV1.out.vi.at hn
      have hilI : (i : Int) < (row.length : Int) := by omega
      have HAB := Lib.hid hab
      have HLC := Lib.hid hlc
      have HNI := Lib.hid hn
      have hnl : n < S1.list.length := (List.getElem?_eq_some_iff.1 hlc).1
      have hex : ∀ t, t ≠ .row lit → ¬ (fun t => t = Tg.row lit) t := fun t h => h
      have hlo := HV1.out.ks.lst (hex _ (by simp))
      obtain ⟨gl, capl, hvl, _, _⟩ := own_form hlo (by omega)
      have hc3 : wr.cell? ⟨M1.K, 3, none⟩ = some M1.vl := HV1.out.ks.cell (hex _ (by simp)) 3
      obtain ⟨vc, hvc, hoc⟩ := HV1.out.ks.cls n _ hlc (hex _ (by simp))
      obtain ⟨g, capc, rfl, hcc1, hcc2⟩ := own_form hoc (by simp)
      rw [hvl] at hc3 hlo
      have hcl : wr.cell? ⟨gl, n, none⟩ = some (.slice (some ⟨g, 0, none⟩) (a0 :: b1 :: r0).length capc) := own_cell16 hlo hvc
      rw [HV1.out.frm.K] at hc3
      have hca : wr.cell? ⟨g, 0, none⟩ = some (.int .i64 (a0 : Int)) := own_cell16 hoc (map_get rfl)
      have hcb : wr.cell? ⟨g, 1, none⟩ = some (.int .i64 (b1 : Int)) := own_cell16 hoc (map_get rfl)
      have hf0 : wr.frozen? ⟨g, 0, none⟩ = false := hoc.frozenAt 0
      have hf1 : wr.frozen? ⟨g, 1, none⟩ = false := hoc.frozenAt 1
      have HOC := Lib.hid hoc
      have HVC := Lib.hid hvc
      have hnI : (n : Int) < (S1.list.length : Int) := by omega
      clear hab hlc hn hlo hvl hoc hvc
      generalize hLc : (a0 :: b1 :: r0).length = Lc at *
      have HLc := Lib.hid hLc
      have hL0 : (0 : Int) < (Lc : Int) := by rw [← hLc]; simp; omega
      have hL1 : (1 : Int) < (Lc : Int) := by rw [← hLc]; simp; omega
      clear hLc
      go_upto_if 36 with fail
      go_cut [] from 21 to 84 (fun wx => ∃ a r S2, S2.list[n]? = some (a :: lit :: r) ∧ (a :: lit :: r).length = Lc ∧ M1.lv[n]? = some (.slice (some ⟨g, 0, none⟩) Lc capc) ∧ VL L A B G P lit M S n0 w row b0 cap i kp wx M1 S2)
      case first =>
        by_cases hal : a0 = lit
        · have halI : (a0 : Int) = (lit : Int) := by omega
          have HM := Lib.hid (VL.swapped HLc.out HV1.out HNI.out HLC.out HVC.out HOC.out)
          rw [hal] at HM HLc
          clear hal
          go_wp2_with fail
          go_region
          go_wp2_with fail
          go_meet
          exact ⟨b1, r0, _, HM.out.1, by have := HLc.out; simp at this ⊢; exact this, HVC.out, HM.out.2⟩
        · have halI : ¬ (a0 : Int) = (lit : Int) := by omega
          have hbl := HAB.out.resolve_left hal
          have HBL := Lib.hid hbl
          clear hbl hal
          go_wp2_with fail
          go_meet
          exact ⟨a0, r0, S1, by rw [← HBL.out]; exact HLC.out, by rw [← HBL.out]; exact HLc.out, HVC.out, HV1.out⟩
      case rest =>
        obtain ⟨a, r, S2, hlc, hLc, hvc, hvl⟩ := hcut
        have HLC2 := Lib.hid hlc
        have HLc2 := Lib.hid hLc
        have HV2 := Lib.hid hvl
        clear hlc hLc hvl hvc HLC HLc HOC HV1 HAB hcn hca hcb hf0 hf1 hc3 hcl hnI
        have hcls := HV2.out.ks.cls n _ HLC2.out (hex _ (by simp))
        have HOC2 := Lib.hid (show wc.ownsRow n0 3 1 (.slice (some ⟨g, 0, none⟩) Lc capc) Lc ((a :: lit :: r).map cv) from by
          obtain ⟨v, h1, h2⟩ := hcls
          rw [HVC.out] at h1
          cases h1
          rw [HLc2.out] at h2
          exact h2)
        have hca : wc.cell? ⟨g, 0, none⟩ = some (.int .i64 (a : Int)) := own_cell16 HOC2.out (map_get rfl)
        have hvs := HV2.out.vi.vs
        have hll := HV2.out.vi.len
        obtain ⟨hnd, _, hltv⟩ := HV2.out.vi.safe.ln n _ HLC2.out
        have hav := hltv a (by simp)
        have HTK := Lib.hid (isTaken_any HV2.out.ks (hex _ (by simp)) (hex _ (by simp)) a (by rw [hvs] at hav; omega))
        have HRL2 := Lib.hid (show ∀ x, x ≠ lit → (S2.wat x).length ≤ 1000000 from fun x hx => by
          have := HV2.out.vi.safe.rowLen x
          unfold putW at this
          rw [if_neg (fun e => hx e.symm)] at this
          omega)
        clear hcls
        go_upto_region 9 with fail
        go_cut [57] from 21 to 84 (fun t wx => (t = .bool true ∧ ∃ M3 S3, VL L A B G P lit M S n0 w row b0 cap (i + 1) kp wx M3 S3) ∨ (t = .bool false ∧ VL L A B G P lit M S n0 w row b0 cap i kp wx M1 S2 ∧ (S2.tk a = true ∨ ∀ m ∈ r, S2.tk (ng m) = true)))
        case first =>
          rw [HV2.out.frm.K] at HTK
          go_wp2_with fail
          refine HTK.out.mono ?_
          rintro e w2 ⟨rfl, hg2⟩
          have HV3 := Lib.hid (HV2.out.quiet hg2)
          clear hg2 HTK
          cases htk : S2.tk a with
          | true =>
            have HTT := Lib.hid htk
            clear htk
            go_wp2_with fail
            go_meet
            exact .inr ⟨rfl, HV3.out, .inl HTT.out⟩
          | false =>
            have HMV := Lib.hid (moved_any HV3.out.ks (hex _ (by simp)) (hex _ (by simp)) (hex _ (by simp)) (hex _ (by simp)) n a lit r HLC2.out (hex _ (by simp)) (fun x hx => hex _ (by simpa using hx)) hnd (fun x hx => hltv x (by simp [hx])) (by rw [hvs]; omega) (by rw [hll]; omega) HRL2.out)
            rw [HV2.out.frm.K] at HMV
            clear htk
            go_wp2_with fail
            refine HMV.out.mono ?_
            rintro e w4 hm
            rcases hm with ⟨rfl, hg4, hall⟩ | ⟨rfl, M4, x, r1, r2, hr12, htx, hk4, hf4, e1, e2, e3, e4⟩
            · have HV4 := Lib.hid (HV3.out.quiet hg4)
              have HAL := Lib.hid hall
              clear hall hg4 HMV
              go_wp2_with fail
              go_meet
              exact .inr ⟨rfl, HV4.out, .inr HAL.out⟩
            · have HV4 := Lib.hid (HV3.out.moved HNI.out HLC2.out hr12 htx hk4 hf4)
              clear hr12 htx hk4 hf4 e1 e2 e3 e4 HMV
              go_wp2_with fail
              go_meet
              exact .inl ⟨rfl, M4, _, HV4.out⟩
        case rest =>
          clear HTK
          rcases hcut with ⟨rfl, M3, S3, hv3⟩ | ⟨rfl, hv3, hx⟩
          · have HV3 := Lib.hid hv3
            clear hv3 HV2 hca
            go_wp2_with fail
            exact ⟨⟨i + 1, kp, M3, S3, by omega, by go_num, rfl, HV3.out⟩, by simp [intOf]; omega⟩
          · have HV3 := Lib.hid hv3
            have HX := Lib.hid hx
            have hrb := hv3.rb
            have hkl := hv3.vi.kl
            clear hv3 hx HV2 hca
            go_wp2_with (at_builtin
                         refine appB rfl _ _ rfl hrb (by rfl) (by rfl) hkl hil hcap1 ?_)
            intro w5 hrb5 hg5
            have hk5 := HV3.out.ks.keep (ex' := fun t => t = .row lit) hg5 (fun t _ hx => hx.elim id (fun ⟨b, hb, ht⟩ => by rw [← ht, ← Option.some.inj hb]; exact HV3.out.tg))
            have HF5 := Lib.hid (show Frm M M1 fT w w5 from HV3.out.frm.trans (Frm.of hg5 (fun b hb => by rw [← Option.some.inj hb, HV3.out.tg]; simp [fT])))
            have hcls := hk5.cls n _ HLC2.out (hex _ (by simp))
            have HOC3 := Lib.hid (show w5.ownsRow n0 3 1 (.slice (some ⟨g, 0, none⟩) Lc capc) Lc ((a :: lit :: r).map cv) from by
              obtain ⟨v, h1, h2⟩ := hcls
              rw [HVC.out] at h1
              cases h1
              rw [HLc2.out] at h2
              exact h2)
            have hca : w5.cell? ⟨g, 0, none⟩ = some (.int .i64 (a : Int)) := own_cell16 HOC3.out (map_get rfl)
            have hxor := xor16 (x := a) (by rw [hvs] at hav; omega)
            have hng := ng_lt hav
            have HT5 := Lib.hid (isTaken_any hk5 (hex _ (by simp)) (hex _ (by simp)) (ng a) (by rw [hvs] at hng; omega))
            rw [HF5.out.K] at HT5
            have HK5 := Lib.hid hk5
            have HRB5 := Lib.hid hrb5
            have HG5 := Lib.hid hg5
            clear hcls hk5 hrb5 hg5 hrb
            go_wp2_with fail
            refine HT5.out.mono ?_
            rintro e w6 ⟨rfl, hg6⟩
            have HK6 := Lib.hid (HK5.out.keep0 hg6)
            have HF6 := Lib.hid (show Frm M M1 fT w w6 from HF5.out.trans (Frm.of hg6 (fun b hb => by cases hb)))
            have HRB6 := Lib.hid (HRB5.out.kept (hg6.block b0 HRB5.out.lt (by simp)))
            have hca6 : w6.cell? ⟨g, 0, none⟩ = some (.int .i64 (a : Int)) := hg6.cell hca (by simp)
            clear hg6 HT5 hca hxor HK5 HRB5 HF5 HOC3
            cases htk : S2.tk (ng a) with
            | true =>
              have HCF := Lib.hid (show Conf ng L A from HV3.out.vi.conf HLC2.out (HX.out.elim (fun e => absurd (HV3.out.vi.safe.tkI.1 htk) (HV3.out.vi.lg.con _ (HV3.out.vi.safe.tkI.1 e))) id) htk)
              have hq2 : w6.cell? ⟨M.K, 2, none⟩ = some (.map (some M1.bW)) := by rw [← HF6.out.K]; exact HK6.out.cell (hex _ (by simp)) 2
              clear htk hca6
              go_upto_region 12 with fail
              have HBd := Lib.hid (HRB6.out.kept (w' := w6.drew) rfl)
              have HKd := Lib.hid HK6.out.drew
              have HFd := Lib.hid (show Frm M M1 fT w w6.drew from HF6.out.trans (Frm.of (grown_drew _) (fun b hb => by cases hb)))
              have HS0 := Lib.hid hq2
              have hw1 : IntKind.i64.wrap ((i : Int) + 1) = ((i + 1 : Nat) : Int) := by rw [IntWalk.i64_in _ ⟨by omega, by omega⟩]; omega
              have hw2 : 0 ≤ (i : Int) + 1 ∧ (i : Int) + 1 ≤ (row.length : Int) := ⟨by omega, by omega⟩
              obtain ⟨ad0, hif, had⟩ : ∃ ad0 : Addr, (if cap = i + 1 then some (⟨b0, 0, none⟩ : Addr) else some ⟨b0, i + 1, none⟩) = some ad0 ∧ (i + 1 < row.length → ad0 = ⟨b0, i + 1, none⟩) := by
                by_cases e : cap = i + 1
                · exact ⟨_, if_pos e, fun h => by omega⟩
                · exact ⟨_, if_neg e, fun _ => rfl⟩
              have HAD := Lib.hid had
              clear had
              refine wp_region_held_drew (S := (fun w' => w'.cell? ⟨M.K, 2, none⟩ = some (.map (some M1.bW)))) (by kernel_rfl) (by (try dsimp only); exact hq2) (fun hHeld => ?_)
              generalize w6.drew = wd at HBd HKd HFd HS0 hHeld ⊢
              clear hq2
              refine wpAnyH_take (i := 0) (v := ?_) (by (simp only [List.getElem?_toArray, List.getElem?_cons_succ, List.getElem?_cons_zero]; rfl)) (by kernel_rfl) (by kernel_rfl) (by kernel_rfl) (by intro _ _ _ h; exact h) (Or.inl ⟨by rfl, ?_⟩) (by assumption) ?_
              rotate_left
              · (intro wS hSw; (try dsimp only at hSw); go_simp; try (with_reducible rfl))
              simp only [Act.put, List.setIfInBounds_toArray, List.set_cons_zero, List.set_cons_succ]
              refine wpAnyH_take (i := 1) (v := ?_) (by (simp only [List.getElem?_toArray, List.getElem?_cons_succ, List.getElem?_cons_zero]; rfl)) (by kernel_rfl) (by kernel_rfl) (by kernel_rfl) (by intro _ _ _ h; exact h) (Or.inl ⟨by rfl, ?_⟩) (by assumption) ?_
              rotate_left
              · (intro wS hSw; (try dsimp only at hSw); go_simp; try (with_reducible rfl))
              simp only [Act.put, List.setIfInBounds_toArray, List.set_cons_zero, List.set_cons_succ]
              refine wpAnyH_take (i := 2) (v := ?_) (by (simp only [List.getElem?_toArray, List.getElem?_cons_succ, List.getElem?_cons_zero]; rfl)) (by kernel_rfl) (by kernel_rfl) (by kernel_rfl) (by intro _ _ _ h; exact h) (Or.inl ⟨by rfl, ?_⟩) (by assumption) ?_
              rotate_left
              · (intro wS hSw; (try dsimp only at hSw); go_simp; try (with_reducible rfl))
              simp only [Act.put, List.setIfInBounds_toArray, List.set_cons_zero, List.set_cons_succ]
              refine wpAnyH_take (i := 3) (v := ?_) (by (simp only [List.getElem?_toArray, List.getElem?_cons_succ, List.getElem?_cons_zero]; rfl)) (by kernel_rfl) (by kernel_rfl) (by kernel_rfl) (by intro _ _ _ h; exact h) (Or.inl ⟨by rfl, ?_⟩) (by assumption) ?_
              rotate_left
              · (intro wS hSw; (try dsimp only at hSw); go_simp; try (with_reducible rfl))
              simp only [Act.put, List.setIfInBounds_toArray, List.set_cons_zero, List.set_cons_succ]
              refine wpAnyH_take (i := 4) (v := ?_) (by (simp only [List.getElem?_toArray, List.getElem?_cons_succ, List.getElem?_cons_zero]; rfl)) (by kernel_rfl) (by kernel_rfl) (by kernel_rfl) (by intro _ _ _ h; exact h) (Or.inl ⟨by rfl, ?_⟩) (by assumption) ?_
              rotate_left
              · (intro wS hSw; (try dsimp only at hSw); go_simp; try (with_reducible rfl))
              simp only [Act.put, List.setIfInBounds_toArray, List.set_cons_zero, List.set_cons_succ]
              refine wpAnyH_take (i := 5) (v := ?_) (by (simp only [List.getElem?_toArray, List.getElem?_cons_succ, List.getElem?_cons_zero]; rfl)) (by kernel_rfl) (by kernel_rfl) (by kernel_rfl) (by intro _ _ _ h; exact h) (Or.inl ⟨by rfl, ?_⟩) (by assumption) ?_
              rotate_left
              · (intro wS hSw; (try dsimp only at hSw); go_simp; try (with_reducible rfl))
              simp only [Act.put, List.setIfInBounds_toArray, List.set_cons_zero, List.set_cons_succ]
              refine wpAnyH_take (i := 6) (v := ?_) (by (simp only [List.getElem?_toArray, List.getElem?_cons_succ, List.getElem?_cons_zero]; rfl)) (by kernel_rfl) (by kernel_rfl) (by kernel_rfl) (by intro _ _ _ h; exact h) (Or.inl ⟨by rfl, ?_⟩) (by assumption) ?_
              rotate_left
              · (intro wS hSw; (try dsimp only at hSw); go_simp; try (with_reducible rfl))
              simp only [Act.put, List.setIfInBounds_toArray, List.set_cons_zero, List.set_cons_succ]
              refine wpAnyH_take (i := 7) (v := ?_) (by (simp only [List.getElem?_toArray, List.getElem?_cons_succ, List.getElem?_cons_zero]; rfl)) (by kernel_rfl) (by kernel_rfl) (by kernel_rfl) (by intro _ _ _ h; exact h) (Or.inl ⟨by rfl, ?_⟩) (by assumption) ?_
              rotate_left
              · (intro wS hSw; (try dsimp only at hSw); go_simp; try (with_reducible rfl))
              simp only [Act.put, List.setIfInBounds_toArray, List.set_cons_zero, List.set_cons_succ]
              refine wpAnyH_take (i := 8) (v := ?_) (by (simp only [List.getElem?_toArray, List.getElem?_cons_succ, List.getElem?_cons_zero]; rfl)) (by kernel_rfl) (by kernel_rfl) (by kernel_rfl) (by intro _ _ _ h; exact h) (Or.inl ⟨by rfl, ?_⟩) (by assumption) ?_
              rotate_left
              · (intro wS hSw; (try dsimp only at hSw); go_simp; try (with_reducible rfl))
              simp only [Act.put, List.setIfInBounds_toArray, List.set_cons_zero, List.set_cons_succ]
              refine wpAnyH_take (i := 9) (v := ?_) (by (simp only [List.getElem?_toArray, List.getElem?_cons_succ, List.getElem?_cons_zero]; rfl)) (by kernel_rfl) (by kernel_rfl) (by kernel_rfl) (by intro _ _ _ h; exact h) (Or.inl ⟨by rfl, ?_⟩) (by assumption) ?_
              rotate_left
              · (intro wS hSw; (try dsimp only at hSw); go_simp; try (with_reducible rfl))
              simp only [Act.put, List.setIfInBounds_toArray, List.set_cons_zero, List.set_cons_succ]
              have hb0 := (HKd.out.lt (b := b0) (by rw [HV3.out.tg]; simp)).1
              refine wpAnyH_ready (rs := [10]) (by kernel_rfl) (by simp) ?_
              refine AllReadyH.cons (by (simp only [List.getElem?_toArray, List.getElem?_cons_succ, List.getElem?_cons_zero]; rfl)) (fun K hK => ?_) AllReadyH.nil
              refine step_appC rfl (.tmp 73) (.tmp 77) rfl HBd.out ad0 (cap - (i + 1)) (kp.length + 1) rfl (by simp) rfl (by simp; omega) (by omega) hcap1 HCM.out HAD.out hb0 ?_
              intro len w8 hlen8 ho8 hg8
              have hk8 := HKd.out.keep (ex' := fun t => t = .row lit) hg8 (fun t _ hx => hx.elim id (fun ⟨b, hb, ht⟩ => by rw [← ht, ← Option.some.inj hb]; exact HV3.out.tg))
              have hf8 : Frm M M1 fT w w8 := HFd.out.trans (Frm.of hg8 (fun b hb => by rw [← Option.some.inj hb, HV3.out.tg]; simp [fT]))
              have hcl9 : w8.cell? ⟨M.K, 2, none⟩ = some (.map (some M1.bW)) := by rw [← hf8.K]; exact hk8.cell (hex _ (by simp)) 2
              obtain ⟨w9, M9, hu, hg9, hk9, hf9, hs9⟩ := close16 hlen8 hk8 hf8 HV3.out.vi ho8 HV3.out.tg (by rw [drop_at16 HNI.out]; simp) (by rw [hvs]; exact hlv) (by rw [hvs]; exact hv)
              have HS9 := Lib.hid (show w9.cell? ⟨M.K, 2, none⟩ = some (.map (some M1.bW)) from hg9.cell hcl9 (fun e => by have e1 := hk8.tK; rw [hf8.K] at e1; rw [show M.K = M1.bW from Option.some.inj e, hk8.tW] at e1; cases e1))
              have HS8 := Lib.hid hcl9
              have HR9 := Lib.hid (show VisR L A B G P lit M S n0 w false w9 M9 _ from ⟨hk9, hf9, hs9, (HV3.out.vi.lg).wat _, HV3.out.vi.pre, hvs, HV3.out.vi.head, HV3.out.vi.broken, hll, (fun h => by cases h), fun _ => HCF.out⟩)
              clear hlen8 ho8 hg8 hk8 hf8 hcl9 hk9 hf9 hs9 hg9
              refine hK.out _ _ (by (try dsimp only); exact HS8.out) (fun hHeld => ?_)
              clear hK K
              try simp only [Act.put, List.setIfInBounds_toArray, List.set_cons_zero, List.set_cons_succ]
              refine wpAnyH_ready (rs := [11]) (by kernel_rfl) (by simp) ?_
              refine AllReadyH.cons (by (simp only [List.getElem?_toArray, List.getElem?_cons_succ, List.getElem?_cons_zero]; rfl)) (fun K hK => ?_) AllReadyH.nil
              go_simp
              refine hK.out _ _ (by (try dsimp only); exact HS9.out) (fun hHeld2 => ?_)
              clear hK K
              try simp only [Act.put, List.setIfInBounds_toArray, List.set_cons_zero, List.set_cons_succ]
              refine wpAnyH_done (by kernel_rfl) ?_ _
              go_wp2
              go_ret
              exact ⟨false, M9, _, rfl, HR9.out⟩
            | false =>
              have HTF := Lib.hid htk
              have hts := HV3.out.vi.safe.trLen
              have HTK7 := Lib.hid (take_any HK6.out (hex _ (by simp)) (hex _ (by simp)) (hex _ (by simp)) a hav (by rw [hvs]; omega) (by rw [hvs] at hts; omega))
              rw [HF6.out.K] at HTK7
              clear htk
              go_wp2_with fail
              refine HTK7.out.mono ?_
              rintro e w7 ⟨rfl, M7, hk7, hf7, e1, e2, e3⟩
              have HV7 := Lib.hid (show VL L A B G P lit M S n0 w row b0 cap (i + 1) (kp ++ [n]) w7 M7 (takeS S2 a) from
                ⟨hk7, HV3.out.vi.kept HNI.out HLC2.out HX.out HTF.out, HF6.out.trans (hf7.mono (fun t ht => by rcases ht with rfl | rfl | rfl <;> simp [fT])), HRB6.out.kept (hf7.block b0 HRB6.out.lt (fun ht => by rw [HV3.out.tg] at ht; rcases ht with h | h | h <;> cases h)), (hf7.tags b0 HRB6.out.lt).trans HV3.out.tg⟩)
              clear hk7 hf7 e1 e2 e3
              go_wp2_with fail
              exact ⟨⟨i + 1, kp ++ [n], M7, _, by omega, by go_num, by simp, HV7.out⟩, by simp [intOf]; omega⟩
    · have hii : i = row.length := by omega
      have hile : (row.length : Int) ≤ (i : Int) := by omega
      have hcm2 := HV1.out.ks.cell (show ¬ (fun t => t = Tg.row lit) Tg.top by simp) 2
      have hq2 : wr.cell? ⟨M.K, 2, none⟩ = some (.map (some M1.bW)) := by rw [← HV1.out.frm.K]; exact hcm2
      have hb0 := (HV1.out.ks.lt (b := b0) (by rw [HV1.out.tg]; simp)).1
      have hkl := HV1.out.vi.kl
      have hvs := HV1.out.vi.vs
      obtain ⟨w9, M9, hu, hg9, hk9, hf9, hs9⟩ := close16 rfl HV1.out.ks HV1.out.frm HV1.out.vi (HV1.out.rb.own hb0 (by omega) HCM.out) HV1.out.tg (by rw [hii]; simp) (by rw [hvs]; exact hlv) (by rw [hvs]; exact hv)
      have HR9 := Lib.hid (show VisR L A B G P lit M S n0 w true w9 M9 _ from ⟨hk9, hf9, hs9, (HV1.out.vi.lg).wat _, HV1.out.vi.pre, hvs, HV1.out.vi.head, HV1.out.vi.broken, HV1.out.vi.len, (fun _ m c hc => (HV1.out.vi.wp m c hc).2 (by rw [hii]; simp)), fun h => by cases h⟩)
      clear hcm2 hg9 hk9 hf9 hs9 hii
      go_wp2
      go_ret
      exact ⟨true, M9, _, rfl, HR9.out⟩
set_option maxRecDepth 100000 in
set_option maxHeartbeats 4000000 in
theorem visit_nil {L : List (List Nat)} {A B G P : Nat → Prop} {lit : Nat} {M : Mm} {S : St} {n0 : Nat} {w : World} (h : KS w n0 M S noT) (hs : Safe S S.wat) (hl : Lg L A B G S) (hw : ∀ (n : Nat) c, S.list[n]? = some c → Wp ng P (fun x => x ∈ S.trail) c)
    (hlt : ng lit ∈ S.trail) (hp : ∀ x, P x → x ∈ S.trail) (hlv : lit < 2 * S.vs.length) (hv : S.vs.length ≤ 100000) (hln : S.list.length ≤ 1000000) (hne : M.rw lit = .slice none 0 0) (hne2 : S.wat lit = []) :
    Calls Try.prog 30 #[.pointer (some ⟨M.K, 0, none⟩), .int .i64 (lit : Int)] w (VisP L A B G P lit M S n0 w) := by
  have hvi := VI.start hs hl hw hlt hp
  have hnoT : ∀ t, ¬ noT t := fun t => id
  have hlk := (h.wat (hnoT _)).look (v := lit) (by omega)
  rw [hne] at hlk
  have hc2 : w.cell? ⟨M.K, 2, none⟩ = some (.map (some M.bW)) := h.cell (hnoT _) 2
  obtain ⟨w3, hu, hs3, hg3⟩ := (h.wat (hnoT _)).put hlv (by omega) (u := .slice none 0 0) (.inl rfl)
  have hk3 := h.keep (ex' := orT noT .wat) hg3 (fun t _ hx => hx.elim .inl (fun ⟨b, hb, ht⟩ => .inr (by rw [← ht, ← Option.some.inj hb]; exact h.tW)))
  have hk4 := hk3.fillWat (x := lit) (l := []) (v := .slice none 0 0) hs3 (World.ownsRow_nil _ _ _ _) (fun b hb => by cases hb)
  have e : putW S.wat lit [] = S.wat := by
    funext y
    unfold putW
    by_cases h : lit = y
    · rw [if_pos h, ← h, hne2]
    · rw [if_neg h]
  rw [e] at hk4
  have HR := Lib.hid (show VisR L A B G P lit M S n0 w true w3 _ S from ⟨hk4.less (fun t ht => ht.1.1.elim (fun e => absurd e (hnoT t)) (fun e => absurd e ht.1.2)), Frm.trans (Frm.of hg3 (fun b hb => by rw [← Option.some.inj hb, h.tW]; simp [fT])) ⟨rfl, rfl, rfl, Nat.le_refl _, fun _ _ _ => rfl, fun _ _ => rfl, rfl, rfl, rfl, rfl⟩, hs, hl, ⟨[], by simp⟩, rfl, rfl, rfl, rfl, fun _ m c hc => (hvi.wp m c hc).2 (by rw [hne2]; simp), fun h => by cases h⟩)
  clear h hs hl hw hlt hp hvi hs3 hg3 hk3 hk4 e
  go_enter Try.func30, Try.ntmps30
  go_wp2_with fail
  go_loopw [6, 20] (fun kv iv wr => kv = .slice none 0 0 ∧ iv = .int .i64 0 ∧ wr = w) (fun _ iv _ => 0)
  case atStart => exact ⟨rfl, rfl, rfl⟩
  case round =>
    obtain ⟨rfl, rfl, rfl⟩ := hrel
    go_wp2
    go_ret
    exact ⟨true, _, S, rfl, HR.out⟩
theorem visit_any {L : List (List Nat)} {A B G P : Nat → Prop} {lit : Nat} {M : Mm} {S : St} {n0 : Nat} {w : World} (h : KS w n0 M S noT) (hs : Safe S S.wat) (hl : Lg L A B G S) (hw : ∀ (n : Nat) c, S.list[n]? = some c → Wp ng P (fun x => x ∈ S.trail) c)
    (hlt : ng lit ∈ S.trail) (hp : ∀ x, P x → x ∈ S.trail) (hlv : lit < 2 * S.vs.length) (hv : S.vs.length ≤ 100000) (hln : S.list.length ≤ 1000000) :
    Calls Try.prog 30 #[.pointer (some ⟨M.K, 0, none⟩), .int .i64 (lit : Int)] w (VisP L A B G P lit M S n0 w) := by
  have hrow := h.row lit id
  rcases hrow.2 with ⟨e1, e2⟩ | ⟨g, cap, cur, e1, _, _, e2, e3, _⟩
  · exact visit_nil h hs hl hw hlt hp hlv hv hln e1 (List.eq_nil_of_length_eq_zero e2)
  · exact visit_row h hs hl hw hlt hp hlv hv hln ⟨g, cap, e1, e2, e3⟩
end Go.Proofs.Ytmiiclhhenepiaa
