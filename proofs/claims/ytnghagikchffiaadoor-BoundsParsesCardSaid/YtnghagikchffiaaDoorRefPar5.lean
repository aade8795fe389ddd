/-
  Layer 4: the contract of the answer's Parts: what its later loops keep. Own work.
-/
import Derived.Test.YtnghagikchffiaaDoorRefPar4
import Derived.Deep.AppendLies
namespace Go.Proofs.YtnghagikchffiaaDoor
set_option linter.unusedVariables false
set_option linter.unusedSimpArgs false
open Go.RowKit

/-- the joint's round, in the world as the walk writes it -/
theorem lo1_joint2 {B b k : Nat} {l : List UInt8} {R : List Rw} {t : List UInt8} {wd h : Bool} {c d : UInt8} {lv nv : Value} {w w3 wf : World} (hwf : wf = fresh w3 b true) (hB : B ≤ b) (hc : l[k]? = some c) (hd : l[k - 1]? = some d) (hk1 : 1 ≤ k) (hcut : isCut c = false) (ht : 0 < t.length) (hne : isDg c ≠ isDg d) (hr : k ≤ l.length → RawAt (l.map lowB) k R t h) (hwd : wd = !numP t) (hRk : R.length ≤ k)
    (ho : w3.ownsRow (b + 1) 73 3 lv (R.length + 1) (rowW R ++ [.bool wd, .bool h, .string (str t)])) (hn : w3.ownsRow B 4 1 nv (R.length + 1) (rowN R ++ [.bool true])) (hp : Pc B b wd h t w3) (hbel : Below B w w3) (hb : b < wf.heap.size) (o : Obj) (dv : Int) (hdv : dv = if isDg c then 1 else 0) :
    Lo1 B b l lv nv (.int .i64 dv) (.int .i64 ((k : Int) + 1)) ((wf.setCell ⟨b, 2, none⟩ (.string (str [lowB c]))).alloc o).drew ∧ Below B w ((wf.setCell ⟨b, 2, none⟩ (.string (str [lowB c]))).alloc o).drew := by
  have h1 := lo1_joint hB hc hd hk1 hcut ht hne hr hwd hRk ho hn hp hbel o 1 dv hdv
  have e := World.setCell_alloc_past o b 2 (.string (str [lowB c])) hb
  rw [← e, hwf]
  exact h1

/-- the row of the answer's parts -/
def rowT (Q : List Pt) : List Value := Q.flatMap rtCells
def rawR (r : Rw) : Pt := ⟨r.hy, numP r.tx, r.tx⟩
theorem rowW_raw (R : List Rw) : rowW R = rowT (R.map rawR) := by
  unfold rowW rowT
  rw [List.flatMap_map]
  rfl
theorem rowT_len : ∀ l : List Pt, (rowT l).length = l.length * 3
  | [] => rfl
  | p :: l => by
    have := rowT_len l
    simp only [rowT, List.flatMap_cons, List.length_append, List.length_cons, rtCells, List.length_nil] at this ⊢
    omega
theorem rowT_at : ∀ (l : List Pt) (i c : Nat) (p : Pt), l[i]? = some p → c < 3 → (rowT l)[i * 3 + c]? = (rtCells p)[c]?
  | [], i, c, p, h, _ => by simp at h
  | q :: l, 0, c, p, h, hc => by
    simp only [List.getElem?_cons_zero, Option.some.injEq] at h
    subst h
    simp only [rowT, List.flatMap_cons]
    rw [List.getElem?_append_left (by simp [rtCells]; omega)]
    simp
  | q :: l, i + 1, c, p, h, hc => by
    have := rowT_at l i c p (by simpa using h) hc
    simp only [rowT, List.flatMap_cons] at this ⊢
    rw [List.getElem?_append_right (by simp [rtCells]; omega), ← this]
    congr 1
    simp [rtCells]; omega
theorem rowT_set : ∀ (l : List Pt) (i : Nat) (p : Pt) (u : List UInt8), l[i]? = some p → (rowT l).set (i * 3 + 2) (.string (str u)) = rowT (l.set i ⟨p.hy, p.nu, u⟩)
  | [], i, p, u, h => by simp at h
  | q :: l, 0, p, u, h => by
    simp only [List.getElem?_cons_zero, Option.some.injEq] at h
    subst h
    simp [rowT, rtCells]
  | q :: l, i + 1, p, u, h => by
    have := rowT_set l i p u (by simpa using h)
    simp only [rowT, List.flatMap_cons, List.set_cons_succ] at this ⊢
    rw [← this, List.set_append_right _ _ (by simp [rtCells]; omega)]
    congr 2
    simp [rtCells]; omega
theorem rowT_take (l : List Pt) (i : Nat) : rowT (l.take i) = (rowT l).take (i * 3) := by
  induction l generalizing i with
  | nil => simp [rowT]
  | cons p l ih =>
    cases i with
    | zero => simp [rowT]
    | succ i =>
      have := ih i
      simp only [rowT, List.take_succ_cons, List.flatMap_cons] at this ⊢
      have e : (rtCells p).length = 3 := rfl
      rw [this, List.take_append, e, List.take_of_length_le (l := rtCells p) (by rw [e]; omega), show (i + 1) * 3 - 3 = i * 3 by omega]
theorem rowT_app (a b : List Pt) : rowT (a ++ b) = rowT a ++ rowT b := by simp [rowT]
/-- the second loop's row behind k rounds -/
def mixR (R : List Rw) (k : Nat) : List Pt := (R.take k).map finR ++ (R.drop k).map rawR
theorem mixR_len (R : List Rw) (k : Nat) : (mixR R k).length = R.length := by
  unfold mixR; simp; omega
theorem mixR_zero (R : List Rw) : mixR R 0 = R.map rawR := by simp [mixR]
theorem mixR_end (R : List Rw) : mixR R R.length = R.map finR := by simp [mixR]
theorem mixR_at {R : List Rw} {k : Nat} {r : Rw} (h : R[k]? = some r) : (mixR R k)[k]? = some (rawR r) := by
  have hk := (List.getElem?_eq_some_iff.1 h).1
  unfold mixR
  rw [List.getElem?_append_right (by simp; omega)]
  simp [h, Nat.min_eq_left (Nat.le_of_lt hk)]
theorem mixR_set {R : List Rw} {k : Nat} {r : Rw} (h : R[k]? = some r) : (mixR R k).set k (finR r) = mixR R (k + 1) := by
  obtain ⟨hk, rfl⟩ := List.getElem?_eq_some_iff.1 h
  unfold mixR
  rw [List.set_append_right _ _ (by simp; omega), List.drop_eq_getElem_cons hk, List.take_succ_eq_append_getElem hk]
  have e : k - ((R.take k).map finR).length = 0 := by simp; omega
  rw [e, List.map_cons, List.set_cons_zero, List.map_append, List.append_assoc]
  rfl
theorem finR_num {r : Rw} (h : numP r.tx = true) : finR r = ⟨r.hy, true, Lib.trimLeftB r.tx 48⟩ := by unfold finR mkPt; rw [if_pos h]
theorem finR_word {r : Rw} (h : numP r.tx = false) : finR r = ⟨r.hy, false, wordP r.tx r.near⟩ := by unfold finR mkPt; rw [if_neg (by rw [h]; simp)]
/-- the cells of a part in the row -/
theorem ownT_cells {w : World} {l : List Pt} {base e g cap n : Nat} (h : w.ownsRow base e 3 (.slice (some ⟨g, 0, none⟩) n cap) n (rowT l)) {i : Nat} {p : Pt} (hp : l[i]? = some p) :
    w.cell? ⟨g, i * 3, none⟩ = some (.bool (!p.nu)) ∧ w.cell? ⟨g, i * 3 + 1, none⟩ = some (.bool p.hy) ∧ w.cell? ⟨g, i * 3 + 2, none⟩ = some (.string (str p.tx)) := by
  have hc := fun c hc u hu => h.cells (g := g) rfl (i * 3 + c) u ((rowT_at l i c p hp hc).trans hu)
  simp only [add_off] at hc
  exact ⟨hc 0 (by omega) _ rfl, hc 1 (by omega) _ rfl, hc 2 (by omega) _ rfl⟩
/-- what the second loop keeps -/
def Lo2 (B b : Nat) (R : List Rw) (lv nv kv : Value) (wr : World) : Prop :=
  ∃ k : Nat, k ≤ R.length ∧ kv = .int .i64 k ∧ wr.ownsRow (b + 1) 73 3 lv R.length (rowT (mixR R k)) ∧ wr.ownsRow B 4 1 nv R.length (rowN R)
theorem lo2_zero {B b : Nat} {R : List Rw} {lv nv : Value} {wr : World} (ho : wr.ownsRow (b + 1) 73 3 lv R.length (rowW R)) (hn : wr.ownsRow B 4 1 nv R.length (rowN R)) : Lo2 B b R lv nv (.int .i64 0) wr :=
  ⟨0, by omega, rfl, by rw [mixR_zero, ← rowW_raw]; exact ho, hn⟩
/-- a text is put into the row -/
theorem own_text {B b g n cap : Nat} {Q : List Pt} {nv : Value} {i m : Nat} {p : Pt} {x : List Value} {w wr : World} (hb : B ≤ b) (ho : wr.ownsRow (b + 1) 73 3 (.slice (some ⟨g, 0, none⟩) n cap) n (rowT Q)) (hn : wr.ownsRow B 4 1 nv m x) (hp : Q[i]? = some p) (hbel : Below B w wr) (u : List UInt8) :
    (wr.setCell ⟨g, i * 3 + 2, none⟩ (.string (str u))).ownsRow (b + 1) 73 3 (.slice (some ⟨g, 0, none⟩) n cap) n (rowT (Q.set i ⟨p.hy, p.nu, u⟩)) ∧ (wr.setCell ⟨g, i * 3 + 2, none⟩ (.string (str u))).ownsRow B 4 1 nv m x ∧ Below B w (wr.setCell ⟨g, i * 3 + 2, none⟩ (.string (str u))) := by
  obtain ⟨h1, hg⟩ := ho.stored (i * 3 + 2) (.string (str u))
  rw [rowT_set _ _ _ _ hp] at h1
  refine ⟨h1, hn.kept hg ?_, hbel.setCell (p := ⟨g, i * 3 + 2, none⟩) ?_ _⟩
  · exact own_apart hn ho (by decide)
  · have := (ho.lt g rfl).1
    show B ≤ g
    omega
theorem lo2_step {B b g cap k : Nat} {R : List Rw} {nv : Value} {r : Rw} {q : Pt} {Q : List Pt} {w wr : World} (hb : B ≤ b) (hr : R[k]? = some r) (hQ : Q = (mixR R k).set k q) (hq : q.hy = r.hy ∧ q.nu = numP r.tx) (ho : wr.ownsRow (b + 1) 73 3 (.slice (some ⟨g, 0, none⟩) R.length cap) R.length (rowT Q)) (hn : wr.ownsRow B 4 1 nv R.length (rowN R)) (hbel : Below B w wr) (u : List UInt8) (hu : u = (finR r).tx) :
    Lo2 B b R (.slice (some ⟨g, 0, none⟩) R.length cap) nv (.int .i64 ((k : Int) + 1)) (wr.setCell ⟨g, k * 3 + 2, none⟩ (.string (str u))) ∧ Below B w (wr.setCell ⟨g, k * 3 + 2, none⟩ (.string (str u))) := by
  have hk := (List.getElem?_eq_some_iff.1 hr).1
  have hp : Q[k]? = some q := by rw [hQ, List.getElem?_set_self (by rw [mixR_len]; exact hk)]
  obtain ⟨h1, h2, h3⟩ := own_text hb ho hn hp hbel u
  refine ⟨⟨k + 1, by omega, by simp, ?_, h2⟩, h3⟩
  rw [hQ, List.set_set, hq.1, hq.2, hu] at h1
  have e : (⟨r.hy, numP r.tx, (finR r).tx⟩ : Pt) = finR r := by
    cases h : numP r.tx
    · rw [finR_word h]
    · rw [finR_num h]
  rw [e, mixR_set hr] at h1
  rw [hu]; exact h1
/-- the second loop's round ends with nothing stored (a number) -/
theorem lo2_num {B b g cap k : Nat} {R : List Rw} {nv : Value} {r : Rw} {wr : World} {u : List UInt8} (hr : R[k]? = some r) (hnu : numP r.tx = true) (ho : wr.ownsRow (b + 1) 73 3 (.slice (some ⟨g, 0, none⟩) R.length cap) R.length (rowT ((mixR R k).set k ⟨r.hy, true, u⟩))) (hn : wr.ownsRow B 4 1 nv R.length (rowN R)) (hu : u = Lib.trimLeftB r.tx 48) :
    Lo2 B b R (.slice (some ⟨g, 0, none⟩) R.length cap) nv (.int .i64 ((k : Int) + 1)) wr := by
  have hk := (List.getElem?_eq_some_iff.1 hr).1
  refine ⟨k + 1, by omega, by simp, ?_, hn⟩
  rw [← mixR_set hr, finR_num hnu, ← hu]
  exact ho
/-- an append at a step of a region that draws its order -/
theorem step_app {P : Program} {w : World} {ops : Array Oper} {o : Oper} {a : Act} {K : Act → World → Prop} {Q : Exit → Act → World → Prop} {E : Prop} (hgd : o.guard = none) (s x : Operand) (t : TypeId)
    (ho : o.op = .call { callee := .builtin .append, args := #[s, x], argTypes := #[t, t] })
    (z : Value) (size bytes base n : Nat) (e : TypeId)
    (ht : P.underlying t = some (.slice e)) (hinfo : (P.info? e).map (fun i => (i.zero, i.size, i.bytes)) = some (some z, size, bytes)) (hzs : z.cells.size = size) (hsz : 0 < size)
    (v : Value) (xs : List Value) (hs : a.eval s = v) (hown : w.ownsRow base e size v n xs)
    (ad : Addr) (m c : Nat) (news : List Value) (hx : a.eval x = .slice (some ad) m c) (hl : news.length = m * size) (hnews : ∀ j u, news[j]? = some u → w.cell? (ad.add j) = some u) (h1 : ∀ u ∈ news, u.oneCell' = true)
    (h63 : n + m ≤ maxLen) (hbytes : (n + m) * bytes ≤ 140737488355328) (hbase : base ≤ w.heap.size)
    (h : ∀ v' w', w'.ownsRow base e size v' (n + m) (xs ++ news) → w.grownBy w' v.ownBlock → (v'.ownBlock = v.ownBlock ∨ v'.ownBlock = some w.heap.size) → K (a.put o.dst v') w') :
    if Region.wanted o (yielded ops a.tmps) = true then Oper.wp P o a w K Q else E := by
  have hw : Region.wanted o (yielded ops a.tmps) = true := by simp [Region.wanted, hgd]
  rw [if_pos hw]
  obtain ⟨i, hi, hz, hsize, hby⟩ := info_parts hinfo
  obtain ⟨v', w', hr, h2, h3, _, h5⟩ := run_append_own_at (P := P) w base t o.type e i z size bytes ht hi hz hsize hby hzs hsz v n xs hown ad m c news hl hnews h1 h63 hbytes hbase
  unfold Oper.wp execOp
  simp only [ho, resolve, invoke, builtin, Sem.run_bind, Sem.run_pure, Result.andThen_ok, List.map_toArray, List.map_cons, List.map_nil, hs, hx, hr]
  exact h v' w' h2 h3 h5
/-- how long a text in memory is -/
def cellSz (w : World) (a : Addr) : Nat := match w.cell? a with
  | some (.string s) => s.size
  | _ => 0
theorem cellSz_of {w : World} {a : Addr} {u : List UInt8} (h : w.cell? a = some (.string (str u))) : cellSz w a = u.length := by
  unfold cellSz; rw [h]; exact size_str u
theorem own_le {w : World} {base e size n cap : Nat} {ad : Option Addr} {xs : List Value} (h : w.ownsRow base e size (.slice ad n cap) n xs) : n ≤ cap := by
  rcases h.2 with ⟨h1, h2⟩ | ⟨g, cap', cur, h1, _, _, h3, _⟩
  · injection h1 with _ _ h1; omega
  · injection h1 with _ _ h1; omega
theorem list_set_id {α : Type} {l : List α} {i : Nat} {x : α} (h : l[i]? = some x) : l.set i x = l := by
  apply List.ext_getElem?
  intro j
  by_cases hj : i = j
  · subst hj
    rw [List.getElem?_set_self (List.getElem?_eq_some_iff.1 h).1, h]
  · rw [List.getElem?_set_ne hj]
theorem ext1_str (x : UInt8) (xs : List UInt8) : (str (x :: xs)).extract 1 (str (x :: xs)).size = str xs := by
  rw [ext_str, size_str]
  congr 1
  simp [toList_str]
theorem ext1_str2 (x : UInt8) (xs : List UInt8) : (str (x :: xs)).extract 1 (xs.length + 1) = str xs := by
  have := ext1_str x xs
  rwa [size_str] at this
theorem ptAt_some {Q : List Pt} {i : Nat} {p : Pt} (h : Q[i]? = some p) : ptAt Q i = p := by unfold ptAt; rw [List.getD_eq_getElem?_getD, h]; rfl
theorem parts0_pos5 (L : List UInt8) : 1 ≤ (parts0 L).length := by unfold parts0; simp
/-- may this part go? -/
def Rm (Q : List Pt) (i : Nat) : Prop := (ptAt Q i).tx = [] ∧ (i + 1 = Q.length ∨ (ptAt Q (i + 1)).hy = true)
def lenOf : Value → Nat
  | .slice _ n _ => n
  | _ => 0
def bit : Value → Nat
  | .bool true => 1
  | _ => 0
/-- what the last loop keeps -/
def Lo4 (b : Nat) (P0 : List Pt) (lv gv : Value) (wr : World) : Prop :=
  ∃ (Q : List Pt) (g : Bool), wr.ownsRow (b + 1) 73 3 lv Q.length (rowT Q) ∧ gv = .bool g ∧ trimmedL Q = trimmedL P0 ∧ 1 ≤ Q.length ∧ Q.length ≤ 100001 ∧ (g = false → ∀ i, 1 ≤ i → i < Q.length → ¬ Rm Q i)
/-- what its inner loop keeps -/
def Lo5 (b : Nat) (Q0 : List Pt) (lv gv iv : Value) (wr : World) : Prop :=
  ∃ (Q : List Pt) (g : Bool) (i : Nat), wr.ownsRow (b + 1) 73 3 lv Q.length (rowT Q) ∧ gv = .bool g ∧ iv = .int .i64 i ∧ 1 ≤ i ∧ i ≤ Q0.length ∧ 1 ≤ Q.length ∧
    (g = false → Q = Q0 ∧ ∀ j, 1 ≤ j → j < i → ¬ Rm Q0 j) ∧ (g = true → Q.length + 1 = Q0.length ∧ trimmedL Q = trimmedL Q0)
theorem not_rm {Q : List Pt} {i : Nat} (h : ∀ j, 1 ≤ j → j < i → ¬ Rm Q j) (hi : ¬ Rm Q i) : ∀ j, 1 ≤ j → j < i + 1 → ¬ Rm Q j := fun j h1 h2 => by
  by_cases hj : j = i
  · rw [hj]; exact hi
  · exact h j h1 (by omega)
/-- the slice v reads in w as these parts, as the answer holds them -/
def RdR (w : World) (v : Value) (l : List Pt) : Prop :=
  ∃ a cap, v = .slice a l.length cap ∧ l.length ≤ cap ∧ cap ≤ 9223372036854775807 ∧
    ∀ i p, l[i]? = some p → ∃ b off, a = some ⟨b, off, none⟩ ∧ b < w.heap.size ∧ w.cell? ⟨b, off + i * 3, none⟩ = some (.bool (!p.nu)) ∧ w.cell? ⟨b, off + i * 3 + 1, none⟩ = some (.bool p.hy) ∧ w.cell? ⟨b, off + i * 3 + 2, none⟩ = some (.string (str p.tx))
theorem RdR.below {w w' : World} {v : Value} {l : List Pt} {B : Nat} (h : RdR w v l) (hb : Below B w w') (hB : w.heap.size ≤ B) : RdR w' v l := by
  obtain ⟨a, cap, rfl, h1, h2, hc⟩ := h
  refine ⟨a, cap, rfl, h1, h2, fun i p hp => ?_⟩
  obtain ⟨b, off, rfl, hlt, c0, c1, c2⟩ := hc i p hp
  exact ⟨b, off, rfl, Nat.lt_of_lt_of_le hlt hb.size, (hb.cell (p := ⟨b, off + i * 3, none⟩) (Nat.lt_of_lt_of_le hlt hB)).trans c0, (hb.cell (p := ⟨b, off + i * 3 + 1, none⟩) (Nat.lt_of_lt_of_le hlt hB)).trans c1, (hb.cell (p := ⟨b, off + i * 3 + 2, none⟩) (Nat.lt_of_lt_of_le hlt hB)).trans c2⟩
theorem RdR.of_own {w : World} {v : Value} {l : List Pt} {base e : Nat} (h : w.ownsRow base e 3 v l.length (rowT l)) : RdR w v l := by
  have h0 := h
  obtain ⟨_, hc⟩ := h
  rcases hc with ⟨rfl, hn⟩ | ⟨g, cap, cur, rfl, _, hg, hn, hcm, _, _⟩
  · refine ⟨none, 0, by rw [hn], by omega, by omega, fun j x hx => ?_⟩
    have : l = [] := List.eq_nil_of_length_eq_zero hn
    subst this; simp at hx
  · refine ⟨_, cap, rfl, hn, by unfold maxLen at hcm; exact hcm, fun i p hp => ?_⟩
    obtain ⟨c0, c1, c2⟩ := ownT_cells h0 hp
    exact ⟨g, 0, rfl, (Array.getElem?_eq_some_iff.1 hg).1, by rw [Nat.zero_add]; exact c0, by rw [Nat.zero_add]; exact c1, by rw [Nat.zero_add]; exact c2⟩
theorem rowT_drop (l : List Pt) (i : Nat) : rowT (l.drop i) = (rowT l).drop (i * 3) := by
  by_cases h : i ≤ l.length
  · have e : rowT (l.take i) ++ rowT (l.drop i) = rowT l := by rw [← rowT_app, List.take_append_drop]
    have h3 : (rowT (l.take i)).length = i * 3 := by rw [rowT_len, List.length_take, Nat.min_eq_left h]
    rw [← e, ← h3, List.drop_left]
  · rw [List.drop_of_length_le (by omega), List.drop_of_length_le (by rw [rowT_len]; omega)]
    rfl
/-- the cells ahead of the part that goes, and those behind it -/
theorem news1 {w w1 : World} {Q : List Pt} {base e gl n cl i : Nat} (ho : w.ownsRow base e 3 (.slice (some ⟨gl, 0, none⟩) n cl) n (rowT Q)) (o : Obj) : ∀ j u, ((rowT Q).take (i * 3))[j]? = some u → (w.alloc o).cell? ((⟨gl, 0, none⟩ : Addr).add j) = some u := fun j u hu => by
  refine (ho.alloc o).cells (g := gl) rfl j u ?_
  rw [List.getElem?_take] at hu
  split at hu
  · exact hu
  · cases hu
theorem news2 {w w1 : World} {Q : List Pt} {base e gl n cl i : Nat} (ho : w.ownsRow base e 3 (.slice (some ⟨gl, 0, none⟩) n cl) n (rowT Q)) {o : Obj} (hg : (w.alloc o).grownBy w1 (some w.heap.size)) (ad : Addr) (hn : Q.length = n) (had : i + 1 < n → ad = ⟨gl, (i + 1) * 3, none⟩) : ∀ j u, ((rowT Q).drop ((i + 1) * 3))[j]? = some u → w1.cell? (ad.add j) = some u := fun j u hu => by
  have hlt := (ho.lt gl rfl).2
  have h1 := (ho.alloc o).kept hg (.inr (by
    show some gl ≠ some w.heap.size
    intro h; injection h with h; omega))
  by_cases hi : i + 1 < n
  · rw [had hi]
    have e : (⟨gl, (i + 1) * 3, none⟩ : Addr).add j = (⟨gl, 0, none⟩ : Addr).add ((i + 1) * 3 + j) := by
      unfold Addr.add; split <;> simp_all
    rw [e]
    refine h1.cells (g := gl) rfl _ u ?_
    rw [List.getElem?_drop] at hu
    exact hu
  · rw [List.drop_of_length_le (by rw [rowT_len]; omega)] at hu
    simp at hu
theorem rowT_one (Q : List Pt) : ∀ u ∈ rowT Q, u.oneCell' = true := by
  intro u hu
  unfold rowT at hu
  obtain ⟨p, _, hp⟩ := List.mem_flatMap.1 hu
  simp only [rtCells, List.mem_cons, List.not_mem_nil, or_false] at hp
  rcases hp with rfl | rfl | rfl <;> rfl
theorem rm_below {B : Nat} {w wr w1 w2 : World} {o : Obj} {v1 : Value} (hb : Below B w wr) (hB : B ≤ wr.heap.size) (g1 : (wr.alloc o).grownBy w1 (some wr.heap.size)) (b1 : v1.ownBlock = some wr.heap.size ∨ v1.ownBlock = some (wr.heap.size + 1)) (g2 : w1.grownBy w2 v1.ownBlock) : Below B w w2 := by
  have h1 : Below B w w1 := (hb.alloc hB o).grown g1 (by simp; omega) (fun k hk => by injection hk with hk; omega)
  have hz : (wr.alloc o).heap.size ≤ w1.heap.size := g1.size
  refine h1.grown g2 (by simp at hz; omega) (fun k hk => ?_)
  rcases b1 with b | b <;> (rw [b] at hk; injection hk with hk; omega)
/-- a part is taken out -/
theorem lo5_rm {b i : Nat} {Q : List Pt} {v2 : Value} {w2 : World} (hrm : Rm Q i) (h1 : 1 ≤ i) (h2 : i < Q.length) (ho : w2.ownsRow (b + 1) 73 3 v2 (0 + i + (Q.length - (i + 1))) (([] ++ (rowT Q).take (i * 3)) ++ (rowT Q).drop ((i + 1) * 3))) :
    Lo5 b Q v2 (.bool true) (.int .i64 ((i : Int) + 1)) w2 := by
  have hl : (Q.take i ++ Q.drop (i + 1)).length = 0 + i + (Q.length - (i + 1)) := by simp; omega
  refine ⟨Q.take i ++ Q.drop (i + 1), true, i + 1, ?_, rfl, by simp, by omega, by omega, by omega, fun h => (by cases h), fun _ => ⟨by omega, trimmed_rm h1 h2 hrm.1 hrm.2⟩⟩
  rw [rowT_app, rowT_take, rowT_drop, hl]
  exact ho
theorem own_lenOf {w : World} {base e size n : Nat} {v : Value} {xs : List Value} (h : w.ownsRow base e size v n xs) : lenOf v = n := by
  rcases h.2 with ⟨rfl, h2⟩ | ⟨g, cap', cur, rfl, _⟩
  · rw [h2]; rfl
  · rfl
/-- a word's round ends: the text as the walk writes it -/
theorem lo2_word {B b g cap k : Nat} {R : List Rw} {nv : Value} {r : Rw} {w wr : World} (hb : B ≤ b) (hr : R[k]? = some r) (hnu : numP r.tx = false) (ho : wr.ownsRow (b + 1) 73 3 (.slice (some ⟨g, 0, none⟩) R.length cap) R.length (rowT (mixR R k))) (hn : wr.ownsRow B 4 1 nv R.length (rowN R)) (hbel : Below B w wr) (x : ByteArray) (hx : x.toList = wordP r.tx r.near) :
    Lo2 B b R (.slice (some ⟨g, 0, none⟩) R.length cap) nv (.int .i64 ((k : Int) + 1)) (wr.setCell ⟨g, k * 3 + 2, none⟩ (.string x)) ∧ Below B w (wr.setCell ⟨g, k * 3 + 2, none⟩ (.string x)) := by
  have e : x = str (wordP r.tx r.near) := tl_ext (by rw [tl_str]; exact hx)
  rw [e]
  refine lo2_step hb hr (q := rawR r) (list_set_id (mixR_at hr)).symm ⟨rfl, rfl⟩ ho hn hbel _ ?_
  rw [finR_word hnu]
end Go.Proofs.YtnghagikchffiaaDoor
