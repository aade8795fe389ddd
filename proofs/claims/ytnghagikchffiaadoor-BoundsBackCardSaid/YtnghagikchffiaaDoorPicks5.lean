/-
  Layer 5: rows of texts; the contracts of Among, Highest, Pick. Own work.
-/
import Derived.Test.YtnghagikchffiaaDoorLives5
import Derived.Test.YtnghagikchffiaaDoorSame5
import Derived.Deep.AppendLies
import Derived.SliceStrings
namespace Go.Proofs.YtnghagikchffiaaDoor
set_option linter.unusedVariables false
set_option linter.unusedSimpArgs false
open Go.RowKit Go.Joins

def sV (s : ByteArray) : Value := .string s
/-- the slice v reads in w as these texts -/
def RdS (w : World) (v : Value) (l : List ByteArray) : Prop :=
  (v = .slice none 0 0 ∧ l = []) ∨ ∃ a cap, v = .slice (some a) l.length cap ∧ l.length ≤ cap ∧ cap ≤ 9223372036854775807 ∧ ∀ (j : Nat) s, l[j]? = some s → w.cell? (a.add j) = some (.string s)
theorem RdS.below {w w' : World} {v : Value} {l : List ByteArray} {B : Nat} (h : RdS w v l) (hb : Below B w w') (hB : w.heap.size ≤ B) : RdS w' v l := by
  rcases h with h | ⟨a, cap, h1, h2, h3, h5⟩
  · exact .inl h
  · exact .inr ⟨a, cap, h1, h2, h3, fun j n hj => (hb.cell (Nat.lt_of_lt_of_le (World.block_lt_of_cell? w _ (h5 j n hj)) hB)).trans (h5 j n hj)⟩
theorem RdS.of_own {w : World} {v : Value} {l : List ByteArray} {base e : Nat} (h : w.ownsRow base e 1 v l.length (l.map sV)) : RdS w v l := by
  have h0 := h
  obtain ⟨_, hc⟩ := h
  rcases hc with ⟨rfl, hn⟩ | ⟨g, cap, cur, rfl, _, hg, hn, hcm, _, _⟩
  · exact .inl ⟨rfl, List.eq_nil_of_length_eq_zero hn⟩
  · exact .inr ⟨⟨g, 0, none⟩, cap, rfl, hn, by unfold maxLen at hcm; exact hcm, fun j s hs => h0.cells (g := g) rfl j (.string s) (by rw [List.getElem?_map, hs]; rfl)⟩
theorem RdS.shape {w : World} {v : Value} {l : List ByteArray} (h : RdS w v l) : ∃ a c, v = .slice a l.length c := by
  rcases h with ⟨rfl, rfl⟩ | ⟨a, cap, rfl, _⟩
  · exact ⟨_, _, rfl⟩
  · exact ⟨_, _, rfl⟩
theorem RdS.some {w : World} {pa : Option Addr} {pc : Nat} {l : List ByteArray} (h : RdS w (.slice pa l.length pc) l) (h0 : 1 ≤ l.length) : ∃ a, pa = some a ∧ l.length ≤ pc ∧ pc ≤ 9223372036854775807 ∧ ∀ (j : Nat) s, l[j]? = some s → w.cell? (a.add j) = some (.string s) := by
  rcases h with ⟨_, rfl⟩ | ⟨a, cap, h1, h2, h3, h4⟩
  · simp at h0
  · cases h1; exact ⟨a, rfl, h2, h3, h4⟩
theorem RdS.len {w : World} {v : Value} {l : List ByteArray} (h : RdS w v l) : (l.length : Int) ≤ 9223372036854775807 := by
  rcases h with ⟨_, rfl⟩ | ⟨a, cap, _, h1, h2, _⟩
  · simp
  · omega
theorem st_info : (Tryd.prog.info? 9).map (fun i => (i.zero, i.size, i.bytes)) = some (some (.string ByteArray.empty), 1, 16) := by kernel_rfl
/-- what `append(s, x)` of one element does, and where the row lies then -/
theorem app1d {P : Program} {ops : Array Oper} {rest : List Oper} {o : Oper} {a : Act} {Q : Exit → Act → World → Prop} {w0 : World} {u : Value} (hgd : o.guard = none) (s x : Operand) (t e : TypeId)
    (ho : o.op = .call { callee := .builtin .append, args := #[s, x], argTypes := #[t, t] }) (z : Value) (bytes base n : Nat)
    (ht : P.underlying t = some (.slice e)) (hinfo : (P.info? e).map (fun i => (i.zero, i.size, i.bytes)) = some (some z, 1, bytes)) (hzs : z.cells.size = 1)
    (v : Value) (xs : List Value) (hs : a.eval s = v) (hown : w0.ownsRow base e 1 v n xs) (hx : a.eval x = .slice (some ⟨w0.heap.size, 0, none⟩) 1 1) (h1 : u.oneCell' = true)
    (h63 : n + 1 ≤ 281474976710656) (hbytes : (n + 1) * bytes ≤ 140737488355328) (hbase : base ≤ w0.heap.size)
    (h : ∀ v' w', w'.ownsRow base e 1 v' (n + 1) (xs ++ [u]) → w0.grownBy w' v.ownBlock → Below base w0 w' → (∀ k, k < w0.heap.size → v.ownBlock ≠ some k → v'.ownBlock ≠ some k) → wpList P ops Q rest (a.put o.dst v') w') :
    wpList P ops Q (o :: rest) a (w0.alloc (.cells #[u] e)) := by
  obtain ⟨i, hi, hz, hsize, hby⟩ := info_parts hinfo
  have hlt : ∀ k, v.ownBlock = some k → base ≤ k := fun k hk => (hown.lt k hk).1
  refine wpList_append_lies _ hgd s x t ho base e i z 1 bytes ht hi hz hsize hby hzs (by omega) v n xs hs (hown.alloc _) ⟨w0.heap.size, 0, none⟩ 1 1 [u] hx rfl ?_ (by simpa using h1) (by omega) (by simp only [maxLen]; omega) hbytes (by simp; omega) (w0.heap.size + 1) (by simp) ?_
  · intro j y hj
    match j with
    | 0 =>
      simp only [List.getElem?_cons_zero, Option.some.injEq] at hj
      subst hj
      show (w0.alloc (Obj.cells #[u] e)).cell? ⟨w0.heap.size, 0, none⟩ = some u
      rw [World.cell?_alloc_at _ _ _ _ rfl]; rfl
    | j + 1 => simp at hj
  · intro g cap w' ho' hg hw _
    have hg0 : w0.grownBy w' v.ownBlock := ⟨hg.os, hg.tape, hg.output, Nat.le_trans (by simp) hg.size, fun k hk hne => (hg.block k (by simp; omega) hne).trans (Below.heap_alloc _ _ _ hk)⟩
    refine h _ w' ho' hg0 ((Below.refl _ _).grown hg0 hbase hlt) fun k hk hne => ?_
    have e1 : (Value.slice (some ⟨g, 0, none⟩) (n + 1) cap).ownBlock = some g := rfl
    rw [e1]
    intro h2
    cases h2
    rcases hw with hw | hw
    · exact hne hw
    · omega
/-- those that the range has -/
def amongF (hard : Bool) (iv : List Iv) (l : List ByteArray) : List ByteArray := l.filter fun v => hasB hard iv v
theorem among_snoc {hard : Bool} {iv : List Iv} {l : List ByteArray} {k : Nat} {s : ByteArray} (h : l[k]? = some s) : amongF hard iv (l.take (k + 1)) = amongF hard iv (l.take k) ++ (if hasB hard iv s then [s] else []) := by
  unfold amongF
  rw [take_snoc _ k s h, List.filter_append]
  congr 1
  simp only [List.filter_cons, List.filter_nil]
theorem among_len (hard : Bool) (iv : List Iv) (l : List ByteArray) (k : Nat) : (amongF hard iv (l.take k)).length ≤ k := by
  unfold amongF
  have := List.length_filter_le (fun v => hasB hard iv v) (l.take k)
  have := List.length_take_le k l
  omega
/-- the first one that none is above -/
def hiF (b : ByteArray) (l : List ByteArray) : ByteArray := l.foldl (fun b s => if 0 < cmpB s.data.toList b.data.toList then s else b) b
def hiS : List ByteArray → ByteArray × Bool
  | [] => (.empty, false)
  | x :: r => (hiF x r, true)
theorem hiF_snoc (b : ByteArray) (l : List ByteArray) (s : ByteArray) : hiF b (l ++ [s]) = if 0 < cmpB s.data.toList (hiF b l).data.toList then s else hiF b l := by
  unfold hiF
  rw [List.foldl_append]; rfl
theorem hiS_snoc (l : List ByteArray) (s : ByteArray) : hiS (l ++ [s]) = if !(hiS l).2 || decide (0 < cmpB s.data.toList (hiS l).1.data.toList) then (s, true) else ((hiS l).1, true) := by
  cases l with
  | nil => rfl
  | cons x r =>
    show (hiF x (r ++ [s]), true) = _
    rw [hiF_snoc]
    show _ = if !true || decide (0 < cmpB s.data.toList (hiF x r).data.toList) then (s, true) else (hiF x r, true)
    by_cases h : 0 < cmpB s.data.toList (hiF x r).data.toList <;> simp [h]
theorem hiF_mem (b : ByteArray) : ∀ l : List ByteArray, hiF b l = b ∨ hiF b l ∈ l := by
  intro l
  induction l generalizing b with
  | nil => exact .inl rfl
  | cons s r ih =>
    have e : hiF b (s :: r) = hiF (if 0 < cmpB s.data.toList b.data.toList then s else b) r := rfl
    rw [e]
    rcases ih (if 0 < cmpB s.data.toList b.data.toList then s else b) with h | h
    · rw [h]
      split
      · exact .inr (by simp)
      · exact .inl rfl
    · exact .inr (by simp [h])
def AmongP (hard : Bool) (iv : List Iv) (l : List ByteArray) (w : World) (e : Ending) (w' : World) : Prop :=
  ∃ v, e = .returned v ∧ w'.ownsRow w.heap.size 9 1 v (amongF hard iv l).length ((amongF hard iv l).map sV) ∧ Below w.heap.size w w'
set_option maxRecDepth 100000 in
set_option maxHeartbeats 1000000 in
theorem Among_any (hard : Bool) (ver : ByteArray) (pv : Value) (iv : List Iv) (lv : Value) (l : List ByteArray) (hl : ∀ p ∈ iv, smallI p) (hz : ∀ s ∈ l, s.size ≤ 100000) (hn : l.length ≤ 100000) (w : World) (hr : RdI w pv iv) (hs : RdS w lv l) :
    Calls Tryd.prog 22 #[.agg #[.bool hard, .string ver, pv], lv] w (AmongP hard iv l w) := by
  obtain ⟨pa, pc, rfl⟩ := rd_shape hr
  obtain ⟨la, lc, rfl⟩ := hs.shape
  have hnI : (l.length : Int) ≤ 100000 := by omega
  have HS := Lib.hid hs
  have HHA := Lib.hid (fun (v : ByteArray) (hv : v.size ≤ 100000) w' (hb : Below w.heap.size w w') => has_at (ver := ver) (b := hasB hard iv v) rfl hl hv w' (hr.below hb (Nat.le_refl _)))
  have HZ := Lib.hid hz
  have hb0 : Below w.heap.size w (w.alloc (.cells #[.bool hard, .string ver, .slice pa iv.length pc] 25)) := (Below.refl w.heap.size w).alloc (Nat.le_refl _) _
  have HB0 := Lib.hid hb0
  have hvr : VarR (w.alloc (.cells #[.bool hard, .string ver, .slice pa iv.length pc] 25)) w.heap.size hard ver (.slice pa iv.length pc) iv := VarR.new hr
  have HV := Lib.hid hvr
  clear hr hs hl hz hb0 hvr
  go_enter Tryd.func22, Tryd.ntmps22
  go_wp2_with fail
  generalize (w.alloc (.cells #[.bool hard, .string ver, .slice pa iv.length pc] 25)) = w1 at HB0 HV ⊢
  go_loopw [5, 10] (fun v i wr => ∃ (k : Nat) (u : Value), u = v ∧ k ≤ l.length ∧ i = .int .i64 k ∧ wr.ownsRow w1.heap.size 9 1 u (amongF hard iv (l.take k)).length ((amongF hard iv (l.take k)).map sV) ∧ Below w1.heap.size w1 wr) (fun _ i _ => l.length - (intOf i).toNat)
  case atStart => exact ⟨0, _, rfl, by omega, rfl, World.ownsRow_nil _ _ _ _, Below.refl _ _⟩
  case round =>
    obtain ⟨k, v, rfl, hk, rfl, hown, hb⟩ := hrel
    have HB := Lib.hid hb
    by_cases hlt : k < l.length
    · obtain ⟨s, hsk⟩ : ∃ s, l[k]? = some s := ⟨_, List.getElem?_eq_getElem hlt⟩
      obtain ⟨a, rfl, _, _, hc⟩ := HS.out.some (by omega)
      have hck := ((HB0.out.trans (hb.mono HB0.out.size)).cell (World.block_lt_of_cell? w _ (hc k s hsk))).trans (hc k s hsk)
      have hss := HZ.out s (List.mem_of_getElem? hsk)
      have hcall := HHA.out s hss wr (HB0.out.trans (hb.mono HB0.out.size))
      have hsn := among_snoc (hard := hard) (iv := iv) hsk
      obtain ⟨c0, c1, c2⟩ := (HV.out.below hb).cells
      generalize hasB hard iv s = b at hcall hsn
      have HSN := Lib.hid hsn
      have HCALL := Lib.hid hcall
      have HLEN := Lib.hid (among_len hard iv l k)
      have hlt' : (k : Int) < l.length := by omega
      have HO := Lib.hid hown
      clear hc hsk hb hcall hsn hown
      go_wp2_with fail
      refine HCALL.out.mono ?_
      rintro e w2 ⟨rfl, hb2⟩
      have HB2 := Lib.hid (HB.out.trans (hb2.mono HB.out.size))
      have hown2 := HO.out.kept (below_grown hb2 none) (by cases hc : v.ownBlock <;> simp)
      clear hb2 c0 c1 c2 hck
      cases b
      · have HO2 := Lib.hid hown2
        clear hown2
        go_wp2
        go_roundw
        case rel =>
          refine ⟨k + 1, _, rfl, by omega, by go_num, ?_, HB2.out⟩
          rw [HSN.out]
          simpa using HO2.out
        case measure => simp [intOf]; omega
      · have hlen := HLEN.out
        have hzz := HB2.out.size
        generalize hQ : amongF hard iv (l.take k) = q at hown2 hlen
        have HQ := Lib.hid hQ
        clear hQ
        generalize hqn : q.length = qn at hown2 hlen
        have HQN := Lib.hid hqn
        clear hqn
        generalize hqs : q.map sV = qs at hown2
        have HQS := Lib.hid hqs
        clear hqs
        go_wp2_with (at_builtin
                     refine app1 rfl _ _ 42 9 rfl (.string ByteArray.empty) 16 w1.heap.size qn Tryd.underlying42 st_info rfl v _ rfl hown2 rfl rfl (by omega) (by omega) hzz ?_)
        intro v' w' ho' hg' hb'
        have HO' := Lib.hid ho'
        have HB' := Lib.hid hb'
        clear ho' hg' hb' hown2
        go_wp2
        go_roundw
        case rel =>
          refine ⟨k + 1, _, rfl, by omega, by go_num, ?_, HB2.out.trans HB'.out⟩
          rw [HSN.out, HQ.out]
          simp only [if_true, List.length_append, List.length_cons, List.length_nil, Nat.zero_add, List.map_append, List.map_cons, List.map_nil]
          rw [HQN.out, HQS.out]
          exact HO'.out
        case measure => simp [intOf]; omega
    · have hkl : k = l.length := by omega
      have hlt' : (l.length : Int) ≤ k := by omega
      have hown' := hown
      rw [hkl, List.take_length] at hown'
      have HO := Lib.hid hown'
      clear hown hown' hb hkl
      go_wp2
      go_ret
      exact ⟨v, rfl, ownsRow_le HO.out HB0.out.size, HB0.out.trans (HB.out.mono HB0.out.size)⟩
theorem Highest_nil (w : World) : Calls Tryd.prog 48 #[.slice none 0 0] w fun e w' => e = .returned (.tuple #[.string .empty, .bool false]) ∧ Below w.heap.size w w' := by
  go_enter Tryd.func48, Tryd.ntmps48
  go_wp2
  go_ret2
  exact ⟨rfl, Below.refl _ _⟩
theorem hiS_cons {l : List ByteArray} {x : ByteArray} (h : l[0]? = some x) : hiS l = (hiF x (l.drop 1), true) := by
  cases l with
  | nil => cases h
  | cons y r => cases h; rfl
theorem hiF_step {b : ByteArray} {l : List ByteArray} {k : Nat} {s : ByteArray} (h : l[k]? = some s) : hiF b (l.take (k + 1)) = if 0 < cmpB s.data.toList (hiF b (l.take k)).data.toList then s else hiF b (l.take k) := by
  rw [take_snoc _ k s h, hiF_snoc]
theorem hiF_small {b : ByteArray} {l m : List ByteArray} (hb : b ∈ m) (hl : ∀ s ∈ l, s ∈ m) : hiF b l ∈ m := by
  rcases hiF_mem b l with h | h
  · rw [h]; exact hb
  · exact hl _ h
set_option maxRecDepth 100000 in
set_option maxHeartbeats 1000000 in
theorem Highest_any (lv : Value) (l : List ByteArray) (hz : ∀ s ∈ l, s.size ≤ 100000) (hn : l.length ≤ 100000) (w : World) (hs : RdS w lv l) :
    Calls Tryd.prog 48 #[lv] w fun e w' => e = .returned (.tuple #[.string (hiS l).1, .bool (hiS l).2]) ∧ Below w.heap.size w w' := by
  by_cases h0 : l.length = 0
  · obtain rfl := List.length_eq_zero_iff.1 h0
    rcases hs with ⟨rfl, _⟩ | ⟨a, cap, rfl, _⟩
    · exact Highest_nil w
    · go_enter Tryd.func48, Tryd.ntmps48
      go_wp2
      go_ret2
      exact ⟨rfl, Below.refl _ _⟩
  · obtain ⟨x, hx⟩ : ∃ x, l[0]? = some x := ⟨_, List.getElem?_eq_getElem (by omega)⟩
    obtain ⟨la, lc, rfl⟩ := hs.shape
    obtain ⟨a, rfl, hc1, hc2, hc⟩ := hs.some (by omega)
    have hx0 := hc 0 x hx
    have ha0 : a.add 0 = a := by unfold Addr.add; simp
    rw [ha0] at hx0
    have HHI := Lib.hid (hiS_cons hx)
    have hmem : ∀ k, hiF x ((l.drop 1).take k) ∈ l := fun k => hiF_small (List.mem_of_getElem? hx) fun s h => List.mem_of_mem_drop (List.mem_of_mem_take h)
    have HMEM := Lib.hid hmem
    have HC := Lib.hid hc
    have HZ := Lib.hid hz
    have hdl : (l.drop 1).length = l.length - 1 := List.length_drop
    have HDL := Lib.hid hdl
    have hdk : ∀ k, (l.drop 1)[k]? = l[k + 1]? := fun k => by rw [List.getElem?_drop, Nat.add_comm]
    have HDK := Lib.hid hdk
    clear hx hc hz hs hmem hdl hdk
    generalize hL : l.length = n at h0 hn hc1 HDL ⊢
    have HL := Lib.hid hL
    have hnz : ((n : Int) == 0) = false := by apply beq_false_of_ne; omega
    have hn1 : (1 : Int) ≤ n := by omega
    have hn2 : (0 : Int) < n := by omega
    have hnI : (n : Int) ≤ 100000 := by omega
    have hcI : (n : Int) ≤ lc := by omega
    have hadd : ∀ (k : Nat), (a.add 1).add k = a.add (k + 1) := fun k => by
      have := Go.Deep.add_add a 1 k
      rw [this, Nat.add_comm]
    have HADD := Lib.hid hadd
    have HC1 := Lib.hid hc1
    have HH0 := Lib.hid h0
    clear hadd ha0 hL hc2 h0
    by_cases hc1' : lc = 1
    · have hn0 : n = 1 := by omega
      subst hn0
      subst hc1'
      clear hn hnI hcI hc1 hnz hn1 hn2
      go_enter Tryd.func48, Tryd.ntmps48
      go_wp2_with fail
      go_loop [4, 16] (fun b i => b = .string x ∧ i = .int .i64 0) (fun _ _ => 0)
      case atStart => exact ⟨rfl, rfl⟩
      case round =>
        obtain ⟨rfl, rfl⟩ := hrel
        go_wp2
        go_ret2
        exact ⟨by rw [HHI.out, List.length_eq_zero_iff.1 HDL.out]; rfl, Below.refl _ _⟩
    · clear hn hc1
      go_enter Tryd.func48, Tryd.ntmps48
      go_wp2_with fail
      go_loopw [4, 16] (fun b i wr => ∃ k : Nat, k ≤ n - 1 ∧ i = .int .i64 k ∧ b = .string (hiF x ((l.drop 1).take k)) ∧ Below w.heap.size w wr) (fun _ i _ => n - (intOf i).toNat)
      case atStart => exact ⟨0, by omega, rfl, rfl, Below.refl _ _⟩
      case round =>
        obtain ⟨k, hk, rfl, rfl, hb⟩ := hrel
        have HB := Lib.hid hb
        by_cases hlt : k < n - 1
        · obtain ⟨s, hsk⟩ : ∃ s, l[k + 1]? = some s := ⟨_, List.getElem?_eq_getElem (by have := HL.out; omega)⟩
          have hcell : w.cell? ⟨a.block, a.off + 1 + k, none⟩ = some (.string s) := by
            have h1 := HC.out (k + 1) s hsk
            rw [show a.off + 1 + k = a.off + (k + 1) by omega]
            exact h1
          have hck := (hb.cell (World.block_lt_of_cell? w _ hcell)).trans hcell
          have hst := hiF_step (b := x) ((HDK.out k).trans hsk)
          have hm := HMEM.out k
          generalize hiF x ((l.drop 1).take k) = b at hst hm
          have HCMP := Lib.hid (fun w => Compare_any s b (HZ.out s (List.mem_of_getElem? hsk)) (HZ.out b hm) w)
          generalize cmpB s.data.toList b.data.toList = y at hst HCMP
          have HST := Lib.hid hst
          have hltI : (k : Int) < (n - 1 : Nat) := by omega
          clear hst hm hcell hsk hb
          by_cases hy : 0 < y
          · go_wp2_with fail
            refine (HCMP.out _).mono ?_
            rintro e w2 ⟨rfl, hb2⟩
            have HB2 := Lib.hid (HB.out.trans (hb2.mono HB.out.size))
            clear hb2 hck
            go_wp2
            go_roundw
            case rel => exact ⟨k + 1, by omega, by go_num, by rw [HST.out, if_pos hy], HB2.out⟩
            case measure => simp [intOf]; omega
          · have hy' : y ≤ 0 := by omega
            go_wp2_with fail
            refine (HCMP.out _).mono ?_
            rintro e w2 ⟨rfl, hb2⟩
            have HB2 := Lib.hid (HB.out.trans (hb2.mono HB.out.size))
            clear hb2 hck
            go_wp2
            go_roundw
            case rel => exact ⟨k + 1, by omega, by go_num, by rw [HST.out, if_neg (by omega)], HB2.out⟩
            case measure => simp [intOf]; omega
        · have hkn : k = n - 1 := by omega
          have hltI : ((n - 1 : Nat) : Int) ≤ k := by omega
          have HF := Lib.hid (show hiF x ((l.drop 1).take k) = (hiS l).1 by rw [HHI.out, hkn, ← HDL.out, List.take_length])
          have HF2 := Lib.hid (show (hiS l).2 = true by rw [HHI.out])
          clear hkn hb
          go_wp2
          go_ret2
          exact ⟨by rw [HF.out, HF2.out]; rfl, HB.out⟩
def PickF (hard : Bool) (iv : List Iv) (l : List ByteArray) : ByteArray × Bool := hiS (amongF hard iv l)
set_option maxRecDepth 100000 in
theorem Pick_any (hard : Bool) (ver : ByteArray) (pv : Value) (iv : List Iv) (lv : Value) (l : List ByteArray) (hl : ∀ p ∈ iv, smallI p) (hz : ∀ s ∈ l, s.size ≤ 100000) (hn : l.length ≤ 100000) (w : World) (hr : RdI w pv iv) (hs : RdS w lv l) :
    Calls Tryd.prog 23 #[.agg #[.bool hard, .string ver, pv], lv] w fun e w' => e = .returned (.tuple #[.string (PickF hard iv l).1, .bool (PickF hard iv l).2]) ∧ Below w.heap.size w w' := by
  obtain ⟨pa, pc, rfl⟩ := rd_shape hr
  obtain ⟨la, lc, rfl⟩ := hs.shape
  have hb0 : Below w.heap.size w (w.alloc (.cells #[.bool hard, .string ver, .slice pa iv.length pc] 25)) := (Below.refl w.heap.size w).alloc (Nat.le_refl _) _
  have HB0 := Lib.hid hb0
  have HA := Lib.hid (Among_any hard ver _ iv _ l hl hz hn _ (hr.below hb0 (Nat.le_refl _)) (hs.below hb0 (Nat.le_refl _)))
  have HH := Lib.hid (fun (v : Value) (w' : World) (ho : RdS w' v (amongF hard iv l)) => Highest_any v (amongF hard iv l) (fun s h => hz s (List.mem_filter.1 h).1) (Nat.le_trans (List.length_filter_le _ _) hn) w' ho)
  have hpf : PickF hard iv l = hiS (amongF hard iv l) := rfl
  have HPF := Lib.hid hpf
  clear hb0 hl hz hn hr hs hpf
  go_enter Tryd.func23, Tryd.ntmps23
  go_wp2_with fail
  refine HA.out.mono ?_
  rintro e w2 ⟨v, rfl, ho, hb2⟩
  have HB2 := Lib.hid hb2
  have HH2 := Lib.hid (HH.out v w2 (RdS.of_own ho))
  clear hb2 ho
  go_wp2_with fail
  refine HH2.out.mono ?_
  rintro e w3 ⟨rfl, hb3⟩
  have HB3 := Lib.hid hb3
  clear hb3
  go_wp2
  go_ret2
  exact ⟨by rw [HPF.out]; rfl, HB0.out.trans ((HB2.out.trans (HB3.out.mono HB2.out.size)).mono HB0.out.size)⟩
end Go.Proofs.YtnghagikchffiaaDoor
