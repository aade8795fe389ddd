/-
  Layer 24: the reader of locks: what it holds in memory; contracts of its methods root and pin. Own work.
-/
import Derived.Test.YtcmojpfolmcaoaaDoorMayL24
import Derived.Deep.RegionLaw
namespace Go.Proofs.YtcmojpfolmcaoaaDoor
set_option linter.unusedVariables false
set_option linter.unusedSimpArgs false
open Go.RowKit

/-- the reader in block X holds what was read so far -/
def RS (w : World) (X : Nat) (st : St) (pv : Value) : Prop :=
  w.heap[X]? = some (.cells #[.string st.rg, .string st.ra, .string st.rv, pv, .bool st.ended] 66 (0, 0)) ∧ w.ownsRow (X + 1) 42 6 pv st.pins.length (rowN st.pins)
theorem RS.lt {w : World} {X : Nat} {st : St} {pv : Value} (h : RS w X st pv) : X < w.heap.size := (Array.getElem?_eq_some_iff.1 h.1).1
theorem RS.cells {w : World} {X : Nat} {st : St} {pv : Value} (h : RS w X st pv) :
    w.cell? ⟨X, 0, none⟩ = some (.string st.rg) ∧ w.cell? ⟨X, 1, none⟩ = some (.string st.ra) ∧ w.cell? ⟨X, 2, none⟩ = some (.string st.rv) ∧ w.cell? ⟨X, 3, none⟩ = some pv ∧ w.cell? ⟨X, 4, none⟩ = some (.bool st.ended) := by
  refine ⟨?_, ?_, ?_, ?_, ?_⟩
  · rw [cell_of_row w X 0 _ _ (0, 0) h.1]; rfl
  · rw [cell_of_row w X 1 _ _ (0, 0) h.1]; rfl
  · rw [cell_of_row w X 2 _ _ (0, 0) h.1]; rfl
  · rw [cell_of_row w X 3 _ _ (0, 0) h.1]; rfl
  · rw [cell_of_row w X 4 _ _ (0, 0) h.1]; rfl
theorem RS.frozen {w : World} {X : Nat} {st : St} {pv : Value} (h : RS w X st pv) (o : Nat) : w.frozen? ⟨X, o, none⟩ = false := frozen_of_row w X o _ _ h.1
theorem RS.below {w w' : World} {X : Nat} {st : St} {pv : Value} (h : RS w X st pv) (hb : Below w.heap.size w w') : RS w' X st pv :=
  ⟨(hb.block X h.lt).trans h.1, h.2.kept (below_grown hb none) (by cases pv.ownBlock <;> simp)⟩
theorem RS.set3 {w : World} {X : Nat} {st : St} {pv : Value} (h : RS w X st pv) (g a v : ByteArray) :
    RS (((w.setCell ⟨X, 0, none⟩ (.string g)).setCell ⟨X, 1, none⟩ (.string a)).setCell ⟨X, 2, none⟩ (.string v)) X ⟨g, a, v, st.pins, st.ended⟩ pv := by
  have g1 := heap_setCell_same w X 0 _ _ (.string g) h.1
  have g2 := heap_setCell_same _ X 1 _ _ (.string a) g1
  have g3 := heap_setCell_same _ X 2 _ _ (.string v) g2
  refine ⟨by simpa using g3, ?_⟩
  exact ownsRow_setCell_below (ownsRow_setCell_below (ownsRow_setCell_below h.2 (a := ⟨X, 0, none⟩) (by simp) _) (a := ⟨X, 1, none⟩) (by simp) _) (a := ⟨X, 2, none⟩) (by simp) _
theorem RS.end {w : World} {X : Nat} {st : St} {pv : Value} (h : RS w X st pv) (b : Bool) : RS (w.setCell ⟨X, 4, none⟩ (.bool b)) X ⟨st.rg, st.ra, st.rv, st.pins, b⟩ pv := by
  have g1 := heap_setCell_same w X 4 _ _ (.bool b) h.1
  exact ⟨by simpa using g1, ownsRow_setCell_below h.2 (a := ⟨X, 4, none⟩) (by simp) _⟩
theorem RS.push {w0 w' : World} {X : Nat} {st : St} {pv v' : Value} {p : Pn} (h : RS w0 X st pv) (ho : w'.ownsRow (X + 1) 42 6 v' (st.pins.length + 1) (rowN st.pins ++ pnCells p)) (hg : w0.grownBy w' pv.ownBlock) :
    RS (w'.setCell ⟨X, 3, none⟩ v') X ⟨st.rg, st.ra, st.rv, st.pins ++ [p], st.ended⟩ v' := by
  have hx : w'.heap[X]? = some (.cells #[.string st.rg, .string st.ra, .string st.rv, pv, .bool st.ended] 66 (0, 0)) :=
    (hg.block X h.lt (fun e => by have := (h.2.lt X e.symm).1; omega)).trans h.1
  have g1 := heap_setCell_same w' X 3 _ _ v' hx
  refine ⟨by simpa using g1, ?_⟩
  have := ownsRow_setCell_below ho (a := ⟨X, 3, none⟩) (by simp) v'
  simp only [List.length_append, List.length_cons, List.length_nil, rowN_snoc]
  exact this
theorem RS.slice {w : World} {X : Nat} {st : St} {pv : Value} (h : RS w X st pv) : ∃ a c, pv = .slice a st.pins.length c := by
  rcases h.2.2 with ⟨h, h0⟩ | ⟨g, cap, cur, h, _⟩
  · exact ⟨none, 0, by rw [h, h0]⟩
  · exact ⟨_, _, h⟩
theorem RS.grown {w0 w' : World} {X : Nat} {st : St} {pv : Value} (h : RS w0 X st pv) (hg : w0.grownBy w' pv.ownBlock) : Below X w0 w' :=
  (Below.refl X w0).grown hg (Nat.le_of_lt h.lt) (fun k hk => by have := (h.2.lt k hk).1; omega)
theorem step6p {P : Program} {w0 : World} {ops : Array Oper} {o : Oper} {a : Act} {K : Act → World → Prop} {Q : Exit → Act → World → Prop} {E : Prop} (p : Pn) (hgd : o.guard = none) (s x : Operand) (t e : TypeId)
    (ho : o.op = .call { callee := .builtin .append, args := #[s, x], argTypes := #[t, t] }) (z : Value) (bytes base n : Nat)
    (ht : P.underlying t = some (.slice e)) (hinfo : (P.info? e).map (fun i => (i.zero, i.size, i.bytes)) = some (some z, 6, bytes)) (hzs : z.cells.size = 6)
    (v : Value) (xs : List Value) (hs : a.eval s = v) (hown : w0.ownsRow base e 6 v n xs) (hx : a.eval x = .slice (some ⟨w0.heap.size, 0, none⟩) 1 1)
    (h63 : n + 1 ≤ 281474976710656) (hbytes : (n + 1) * bytes ≤ 140737488355328) (hbase : base ≤ w0.heap.size)
    (h : ∀ v' w', w'.ownsRow base e 6 v' (n + 1) (xs ++ pnCells p) → w0.grownBy w' v.ownBlock → K (a.put o.dst v') w') :
    if Region.wanted o (yielded ops a.tmps) = true then Oper.wp P o a (w0.alloc (.cells #[.string p.g, .string p.a, .string p.t, .string p.c, .string p.v, .int .i64 p.sc] e)) K Q else E := by
  obtain ⟨i, hi, hz, hsize, hby⟩ := info_parts hinfo
  refine step_append_lies _ hgd s x t ho base e i z 6 bytes ht hi hz hsize hby hzs (by omega) v n xs hs (hown.alloc _) ⟨w0.heap.size, 0, none⟩ 1 1 (pnCells p) hx rfl ?_ (by simp [pnCells, Value.oneCell']) (by omega) (by simp only [maxLen]; omega) hbytes (by simp; omega) (w0.heap.size + 1) (by simp) ?_
  · intro j y hj
    rw [add_off, cell_of_row _ w0.heap.size j _ e (0, 0) (heap_alloc_new w0 _)]
    have : (#[Value.string p.g, .string p.a, .string p.t, .string p.c, .string p.v, .int .i64 p.sc] : Array Value) = (pnCells p).toArray := rfl
    rw [this]
    simpa using hj
  · intro g cap w' ho' hg _ _
    exact h _ w' ho' ⟨hg.os, hg.tape, hg.output, Nat.le_trans (by simp) hg.size, fun k hk hne => (hg.block k (by simp; omega) hne).trans (Below.heap_alloc _ _ _ hk)⟩
/-- what a method of the reader leaves -/
def RdP (X : Nat) (w : World) (r : Option St) (e : Ending) (w' : World) : Prop :=
  (∃ st' pv', r = some st' ∧ e = .returned (.bool true) ∧ RS w' X st' pv' ∧ Below X w w') ∨ (r = none ∧ e = .returned (.bool false) ∧ Below X w w')
/-- the words of a line in memory -/
def WordsAt (w : World) (b : Nat) (ws : List (List UInt8)) : Prop := ∀ (j : Nat) x, ws[j]? = some x → w.cell? ⟨b, j, none⟩ = some (.string (str x))
theorem WordsAt.below {w w' : World} {b B : Nat} {ws : List (List UInt8)} (h : WordsAt w b ws) (hb : Below B w w') (hB : w.heap.size ≤ B) : WordsAt w' b ws :=
  fun j x hx => (hb.cell (Nat.lt_of_lt_of_le (World.block_lt_of_cell? w _ (h j x hx)) hB)).trans (h j x hx)
theorem lit_eq (x : List UInt8) (l : List UInt8) : ((str x).toList == l) = decide (x = l) := by
  rw [str_list, Bool.eq_iff_iff]; simp
set_option maxRecDepth 100000 in
set_option maxHeartbeats 2000000 in
theorem root_at (X : Nat) (st : St) (pv : Value) (b n : Nat) (ws : List (List UInt8)) (hn : n = ws.length) (hl : ∀ x ∈ ws, x.length ≤ 1000000) (w : World) (hT : MaxOk w) (hr : RS w X st pv) (hw : WordsAt w b ws) (hXb : X < b) :
    Calls Tryd.prog 52 #[.pointer (some ⟨X, 0, none⟩), .slice (some ⟨b, 0, none⟩) n n] w (RdP X w (rootM ws st)) := by
  have HR := Lib.hid hr
  by_cases h2 : ws.length = 2
  case neg =>
    have hne : ((n : Int) != 2) = true := by simp; omega
    have HF := Lib.hid (show rootM ws st = none by
      unfold rootM
      split
      · next h => simp at h2
      · rfl)
    clear hr hw
    go_enter Tryd.func52, Tryd.ntmps52
    go_wp2
    go_ret
    exact .inr ⟨HF.out, rfl, Below.refl _ _⟩
  obtain ⟨x, y, rfl⟩ : ∃ x y, ws = [x, y] := by
    match ws, h2 with
    | [x, y], _ => exact ⟨x, y, rfl⟩
  obtain rfl : n = 2 := hn
  have c0 := hw 0 x rfl
  have c1 := hw 1 y rfl
  have hxl := lit_eq x [114, 111, 111, 116]
  by_cases hx : x = wRoot
  case neg =>
    have hxn : ((str x).toList == [114, 111, 111, 116]) = false := by rw [hxl]; simpa [wRoot] using hx
    have HF := Lib.hid (show rootM [x, y] st = none by simp [rootM, hx])
    clear hr hw hxl
    go_enter Tryd.func52, Tryd.ntmps52
    go_wp2
    go_ret
    exact .inr ⟨HF.out, rfl, Below.refl _ _⟩
  have hxn : ((str x).toList == [114, 111, 111, 116]) = true := by rw [hxl]; simpa [wRoot] using hx
  have hpg := ParseGav_any (str y) (by rw [size_str]; exact hl y (by simp)) w hT
  rw [str_data] at hpg
  have HROOT := Lib.hid (show rootM [x, y] st = (match parseGav y with | some (g, a, v) => some ⟨g, a, v, st.pins, st.ended⟩ | none => none) by simp only [rootM, if_pos hx]; cases parseGav y <;> rfl)
  clear hxl hw
  cases hpy : parseGav y with
  | none =>
    rw [hpy] at hpg
    unfold gavOut gavErr gavV at hpg
    simp only at hpg
    have HPG := Lib.hid hpg
    have HF := Lib.hid (show rootM [x, y] st = none by rw [HROOT.out, hpy])
    clear hpg hr hpy hx
    go_enter Tryd.func52, Tryd.ntmps52
    go_wp2_with fail
    refine HPG.out.mono ?_
    rintro e w2 ⟨rfl, hb2⟩
    have HB2 := Lib.hid (hb2.mono (Nat.le_of_lt HR.out.lt))
    have hr2 := HR.out.below hb2
    have hz2 : X < w2.heap.size := hr2.lt
    have f0 := hr2.frozen 0
    have f1 := hr2.frozen 1
    have f2 := hr2.frozen 2
    obtain ⟨y0, y1, y2, y3, y4⟩ := hr2.cells
    clear hb2 hr2 c0 c1
    go_wp2
    go_ret
    exact .inr ⟨HF.out, rfl, (((HB2.out.setCell (Nat.le_refl _) _).setCell (Nat.le_refl _) _).setCell (Nat.le_refl _) _).alloc (by simp [World.setCell]; omega) _⟩
  | some t =>
    obtain ⟨g, a, v⟩ := t
    rw [hpy] at hpg
    unfold gavOut gavV at hpg
    simp only at hpg
    have HPG := Lib.hid hpg
    have HF := Lib.hid (show rootM [x, y] st = some ⟨g, a, v, st.pins, st.ended⟩ by rw [HROOT.out, hpy])
    clear hpg hr hpy hx
    go_enter Tryd.func52, Tryd.ntmps52
    go_wp2_with fail
    refine HPG.out.mono ?_
    rintro e w2 ⟨rfl, hb2⟩
    have HB2 := Lib.hid (hb2.mono (Nat.le_of_lt HR.out.lt))
    have hr2 := HR.out.below hb2
    have hz2 : X < w2.heap.size := hr2.lt
    have f0 := hr2.frozen 0
    have f1 := hr2.frozen 1
    have f2 := hr2.frozen 2
    obtain ⟨y0, y1, y2, y3, y4⟩ := hr2.cells
    have HR2 := Lib.hid hr2
    clear hb2 hr2 c0 c1
    go_wp2
    go_ret
    exact .inl ⟨_, pv, HF.out, rfl, (HR2.out.set3 g a v).below ((Below.refl _ _).alloc (Nat.le_refl _) _), (((HB2.out.setCell (Nat.le_refl _) _).setCell (Nat.le_refl _) _).setCell (Nat.le_refl _) _).alloc (by simp [World.setCell]; omega) _⟩
def okS (st : St) : Prop := (∀ p ∈ st.pins, okP p) ∧ st.pins.length ≤ 4096
theorem isId_size {s : ByteArray} (h : isId s = true) : s.size ≤ 64 := by
  unfold isId at h
  simp only [Bool.and_eq_true, decide_eq_true_eq] at h
  exact h.1.2
theorem mayKey_sizes {g a t c : ByteArray} (h : mayKey g a t c = true) : g.size ≤ 64 ∧ a.size ≤ 64 ∧ t.size ≤ 64 ∧ c.size ≤ 64 := by
  unfold mayKey at h
  simp only [Bool.and_eq_true, Bool.or_eq_true, decide_eq_true_eq] at h
  obtain ⟨⟨⟨h1, h2⟩, h3⟩, h4⟩ := h
  refine ⟨isId_size h1, isId_size h2, isId_size h3, ?_⟩
  rcases h4 with h4 | h4
  · omega
  · exact isId_size h4
theorem scope_rng (s : ByteArray) : 0 ≤ scopeI s ∧ scopeI s ≤ 6 := by
  unfold scopeI
  repeat' split
  all_goals omega
set_option maxRecDepth 100000 in
set_option maxHeartbeats 4000000 in
theorem pin_at (X : Nat) (st : St) (pv : Value) (b n : Nat) (ws : List (List UInt8)) (hn : n = ws.length) (hl : ∀ x ∈ ws, x.length ≤ 1000000) (hok : okS st) (w : World) (hT : MaxOk w) (hr : RS w X st pv) (hw : WordsAt w b ws) (hbl : b < w.heap.size) :
    Calls Tryd.prog 53 #[.pointer (some ⟨X, 0, none⟩), .slice (some ⟨b, 0, none⟩) n n] w (RdP X w (pinM ws st)) := by
  obtain ⟨va, vc, rfl⟩ := hr.slice
  have HR := Lib.hid hr
  have hXl : X < w.heap.size := hr.lt
  obtain ⟨y0, y1, y2, y3, y4⟩ := hr.cells
  by_cases h4 : ws.length = 4
  case neg =>
    have hne : ((n : Int) != 4) = true := by simp; omega
    have HF := Lib.hid (show pinM ws st = none by
      unfold pinM
      split
      · next h => simp at h4
      · rfl)
    clear hr hw
    go_enter Tryd.func53, Tryd.ntmps53
    go_wp2
    go_ret
    exact .inr ⟨HF.out, rfl, Below.refl _ _⟩
  obtain ⟨x, k, v, s, rfl⟩ : ∃ x k v s, ws = [x, k, v, s] := by
    match ws, h4 with
    | [x, k, v, s], _ => exact ⟨x, k, v, s, rfl⟩
  obtain rfl : n = 4 := hn
  have hle : st.pins.length ≤ 4096 := hok.2
  by_cases hmax : 4096 ≤ st.pins.length
  · have hmI : (4096 : Int) ≤ st.pins.length := by omega
    have HF := Lib.hid (show pinM [x, k, v, s] st = none by simp [pinM, hmax])
    clear hr hw
    go_enter Tryd.func53, Tryd.ntmps53
    go_wp2
    go_ret
    exact .inr ⟨HF.out, rfl, Below.refl _ _⟩
  have hmI : (st.pins.length : Int) < 4096 := by omega
  have c1 := hw 1 k rfl
  have hpk := ParseKey_any (str k) (by rw [size_str]; exact hl k (by simp)) w hT
  rw [str_data] at hpk
  have HSC := Lib.hid (fun w => Scope_any (str s) w)
  have hvl : v.length ≤ 1000000 := hl v (by simp)
  have HW := Lib.hid hw
  have HPIN := Lib.hid (show pinM [x, k, v, s] st = (match parseKey k with | none => none | some (g, a, t, c) => if scopeI (str s) = 0 then none else if mayAt (st.pins ++ [⟨g, a, t, c, str v, scopeI (str s)⟩]) st.pins.length = true then some ⟨st.rg, st.ra, st.rv, st.pins ++ [⟨g, a, t, c, str v, scopeI (str s)⟩], st.ended⟩ else none) by simp only [pinM, if_neg hmax]; cases parseKey k <;> rfl)
  clear hw hmax
  cases hpy : parseKey k with
  | none =>
    rw [hpy] at hpk
    unfold keyOut keyErr keyV at hpk
    simp only at hpk
    have HPK := Lib.hid hpk
    have HF := Lib.hid (show pinM [x, k, v, s] st = none by rw [HPIN.out, hpy])
    clear hpk hr hpy
    go_enter Tryd.func53, Tryd.ntmps53
    go_wp2_with fail
    refine HPK.out.mono ?_
    rintro e w2 ⟨rfl, hb2⟩
    have HB2 := Lib.hid (hb2.mono (Nat.le_of_lt hXl))
    have hz2 : X < w2.heap.size := Nat.lt_of_lt_of_le hXl hb2.size
    have c3 := HW.out.below hb2 (Nat.le_refl _) 3 s rfl
    have hbl2 : b < w2.heap.size := Nat.lt_of_lt_of_le hbl hb2.size
    clear hb2 c1 y0 y1 y2 y3 y4
    go_wp2_with fail
    refine (HSC.out _).mono ?_
    rintro e w3 ⟨rfl, rfl⟩
    go_wp2
    go_ret
    exact .inr ⟨HF.out, rfl, HB2.out.alloc (by omega) _⟩
  | some kk =>
    obtain ⟨g, a, t, c⟩ := kk
    rw [hpy] at hpk
    unfold keyOut keyV at hpk
    simp only at hpk
    have hsz := mayKey_sizes (key_printed hpy).2
    have HPK := Lib.hid hpk
    have HPIN2 := Lib.hid (show pinM [x, k, v, s] st = (if scopeI (str s) = 0 then none else if mayAt (st.pins ++ [⟨g, a, t, c, str v, scopeI (str s)⟩]) st.pins.length = true then some ⟨st.rg, st.ra, st.rv, st.pins ++ [⟨g, a, t, c, str v, scopeI (str s)⟩], st.ended⟩ else none) by rw [HPIN.out, hpy])
    clear hpk hr hpy HPIN
    have hsr := scope_rng (str s)
    generalize scopeI (str s) = sc at HSC HPIN2 hsr
    by_cases hs0 : sc = 0
    · have hd : decide (0 < sc) = false := by simp; omega
      have HF := Lib.hid (show pinM [x, k, v, s] st = none by rw [HPIN2.out, if_pos hs0])
      clear hs0
      go_enter Tryd.func53, Tryd.ntmps53
      go_wp2_with fail
      refine HPK.out.mono ?_
      rintro e w2 ⟨rfl, hb2⟩
      have HB2 := Lib.hid (hb2.mono (Nat.le_of_lt hXl))
      have hz2 : X < w2.heap.size := Nat.lt_of_lt_of_le hXl hb2.size
      have c3 := HW.out.below hb2 (Nat.le_refl _) 3 s rfl
      have hbl2 : b < w2.heap.size := Nat.lt_of_lt_of_le hbl hb2.size
      clear hb2 c1 y0 y1 y2 y3 y4
      go_wp2_with fail
      refine (HSC.out _).mono ?_
      rintro e w3 ⟨rfl, rfl⟩
      rw [hd]
      go_wp2
      go_ret
      exact .inr ⟨HF.out, rfl, HB2.out.alloc (by omega) _⟩
    · have hd : decide (0 < sc) = true := by simp; omega
      have HPIN3 := Lib.hid (show pinM [x, k, v, s] st = (if mayAt (st.pins ++ [⟨g, a, t, c, str v, sc⟩]) st.pins.length = true then some ⟨st.rg, st.ra, st.rv, st.pins ++ [⟨g, a, t, c, str v, sc⟩], st.ended⟩ else none) by rw [HPIN2.out, if_neg hs0])
      clear hs0
      go_enter Tryd.func53, Tryd.ntmps53
      go_wp2_with fail
      refine HPK.out.mono ?_
      rintro e w2 ⟨rfl, hb2⟩
      have hz2 : X < w2.heap.size := Nat.lt_of_lt_of_le hXl hb2.size
      have c3 := HW.out.below hb2 (Nat.le_refl _) 3 s rfl
      have hbl2 : b < w2.heap.size := Nat.lt_of_lt_of_le hbl hb2.size
      have HB2 := Lib.hid hb2
      clear hb2 c1 y0 y1 y2 y3 y4
      go_wp2_with fail
      refine (HSC.out _).mono ?_
      rintro e w3 ⟨rfl, rfl⟩
      rw [hd]
      go_upto_region 8 with fail
      have hb3 : Below w2.heap.size w2 (w2.alloc (.cells #[.string g, .string a, .string t, .string c] 40)) := (Below.refl _ _).alloc (Nat.le_refl _) _
      have hkc : (w2.alloc (.cells #[.string g, .string a, .string t, .string c] 40)).heap[w2.heap.size]? = some (.cells #[.string g, .string a, .string t, .string c] 40 (0, 0)) := heap_alloc_new w2 _
      generalize (w2.alloc (.cells #[.string g, .string a, .string t, .string c] 40)) = w3 at hb3 hkc ⊢
      have hb03 := HB2.out.trans (hb3.mono HB2.out.size)
      have HB03 := Lib.hid hb03
      have hr3 := HR.out.below hb03
      have HR3 := Lib.hid hr3
      obtain ⟨y0, y1, y2, y3, y4⟩ := hr3.cells
      have c2 := HW.out.below hb03 (Nat.le_refl _) 2 v rfl
      generalize w2.heap.size = kb at hkc ⊢
      have q0 : w3.cell? ⟨kb, 0, none⟩ = some (.string g) := by rw [cell_of_row w3 kb 0 _ _ (0, 0) hkc]; rfl
      have q1 : w3.cell? ⟨kb, 1, none⟩ = some (.string a) := by rw [cell_of_row w3 kb 1 _ _ (0, 0) hkc]; rfl
      have q2 : w3.cell? ⟨kb, 2, none⟩ = some (.string t) := by rw [cell_of_row w3 kb 2 _ _ (0, 0) hkc]; rfl
      have q3 : w3.cell? ⟨kb, 3, none⟩ = some (.string c) := by rw [cell_of_row w3 kb 3 _ _ (0, 0) hkc]; rfl
      have hz3 : X < w3.heap.size := hr3.lt
      clear hb3 hb03 hr3 hkc c3 hbl2 hz2 HB2
      go_cut [] from 43 (fun wx => ∃ pv', RS wx X ⟨st.rg, st.ra, st.rv, st.pins ++ [⟨g, a, t, c, str v, sc⟩], st.ended⟩ pv' ∧ Below X w3 wx)
      case first =>
        go_region_law (first
          | (refine step6p (w0 := w3.drew) ⟨g, a, t, c, str v, sc⟩ rfl (.tmp 48) (.tmp 55) 24 42 rfl _ 88 (X + 1) st.pins.length Tryd.underlying24 pn_info rfl (.slice va st.pins.length vc) _ (by simp [Act.eval, Act.put]) HR3.out.2 (by simp [Act.eval, Act.put]) (by omega) (by omega) HR3.out.lt ?_; intro v1 w4 o4 g4; obtain ⟨gb, gc, rfl, _, _⟩ := o4.form (by omega); have g4 : w3.grownBy w4 (Value.slice va st.pins.length vc).ownBlock := ⟨g4.os, g4.tape, g4.output, g4.size, g4.block⟩; have hx4 : w4.heap[X]? = some (.cells #[.string st.rg, .string st.ra, .string st.rv, .slice va st.pins.length vc, .bool st.ended] 66 (0, 0)) := (g4.block X HR3.out.lt (fun e => by have := (HR3.out.2.lt X e.symm).1; omega)).trans HR3.out.1; have f4 : w4.frozen? ⟨X, 3, none⟩ = false := frozen_of_row w4 X 3 _ _ hx4; have x4 : w4.cell? ⟨X, 3, none⟩ = some (.slice va st.pins.length vc) := (by rw [cell_of_row w4 X 3 _ _ (0, 0) hx4]; rfl); clear hx4))
        all_goals
          have hr5 := HR3.out.push (p := ⟨g, a, t, c, str v, sc⟩) o4 g4
          have hb5 : Below X w3 (w4.setCell ⟨X, 3, none⟩ (.slice (some ⟨gb, 0, none⟩) (st.pins.length + 1) gc)) := (HR3.out.grown g4).setCell (Nat.le_refl _) _
          have HR5 := Lib.hid hr5
          have HB5 := Lib.hid hb5
          clear f4 x4 o4 g4 y0 y1 y2 y3 y4 c2 q0 q1 q2 q3 hr5 hb5
          go_wp2_with fail
          go_meet
          exact ⟨_, HR5.out, HB5.out⟩
      case rest =>
      obtain ⟨pv5, hr5, hb5⟩ := hcut
      obtain ⟨v5, n5, rfl⟩ : ∃ a c, pv5 = .slice a (st.pins.length + 1) c := by
        obtain ⟨a, c, h⟩ := hr5.slice
        exact ⟨a, c, by simpa using h⟩
      clear y0 y1 y2 y3 y4 c2 q0 q1 q2 q3
      have HR5 := Lib.hid hr5
      have HB5 := Lib.hid ((HB03.out.mono (Nat.le_of_lt hXl)).trans hb5)
      obtain ⟨y0, y1, y2, y3, y4⟩ := hr5.cells
      have hrd : RdN wc (.slice v5 (st.pins.length + 1) n5) (st.pins ++ [⟨g, a, t, c, str v, sc⟩]) := RdN.of_own hr5.2
      have hcall := mayPin_any (.slice v5 (st.pins.length + 1) n5) (st.pins ++ [⟨g, a, t, c, str v, sc⟩]) st.pins.length ⟨g, a, t, c, str v, sc⟩ (by simp) ⟨by show g.size ≤ 1000000; omega, by show a.size ≤ 1000000; omega, by show t.size ≤ 1000000; omega, by show c.size ≤ 1000000; omega, by show (str v).size ≤ 1000000; rw [size_str]; exact hvl⟩ wc hrd
      generalize hma : mayAt (st.pins ++ [⟨g, a, t, c, str v, sc⟩]) st.pins.length = m at hcall
      have HM := Lib.hid hma
      have HCALL := Lib.hid hcall
      clear hrd hcall hr5 hb5 hma
      go_wp2_with fail
      refine HCALL.out.mono ?_
      rintro e w6 ⟨rfl, hb6⟩
      have HR6 := Lib.hid (HR5.out.below hb6)
      have HB6 := Lib.hid (HB5.out.trans (hb6.mono (Nat.le_of_lt HR5.out.lt)))
      clear hb6 y0 y1 y2 y3 y4
      go_wp2
      go_ret
      cases m
      · exact .inr ⟨by rw [HPIN3.out, HM.out]; rfl, rfl, HB6.out⟩
      · exact .inl ⟨_, _, by rw [HPIN3.out, HM.out]; rfl, rfl, HR6.out, HB6.out⟩
end Go.Proofs.YtcmojpfolmcaoaaDoor
