/-
  Layer 21: contracts of own, of the answer's True, of weigh.Count. Own work.
-/
import Derived.Test.YtfgoalgfpcalgaaClauses
import Derived.IntWalk
namespace Go.Proofs.Ytfgoalgfpcalgaa
set_option linter.unusedVariables false
set_option linter.unusedSimpArgs false
open Go.RowKit

theorem add_block (a : Addr) (j : Nat) : (a.add j).block = a.block := by unfold Addr.add; split <;> rfl
/-- v is a slice that came in and reads as l -/
def Reads {α : Type} (w : World) (f : α → Value) (v : Value) (l : List α) : Prop :=
  (v = .slice none 0 0 ∧ l = []) ∨ ∃ a cap, v = .slice (some a) l.length cap ∧ l.length ≤ cap ∧ cap ≤ 9223372036854775807 ∧ ∀ (j : Nat) n, l[j]? = some n → w.cell? (a.add j) = some (f n)
theorem Reads.below {α : Type} {w w' : World} {f : α → Value} {v : Value} {l : List α} {B : Nat} (h : Reads w f v l) (hb : Below B w w') (hB : w.heap.size ≤ B) : Reads w' f v l := by
  rcases h with h | ⟨a, cap, h1, h2, h3, h5⟩
  · exact .inl h
  · exact .inr ⟨a, cap, h1, h2, h3, fun j n hj => (hb.cell (Nat.lt_of_lt_of_le (World.block_lt_of_cell? w _ (h5 j n hj)) hB)).trans (h5 j n hj)⟩

/-- a literal brought to a variable up to 1000 -/
def ownE (n : Int) : Int := if n.tmod 1000 + 1001 > 1000 then 1000 - (n.tmod 1000 + 1001) else n.tmod 1000 + 1001
theorem tmod_bd (n : Int) : -999 ≤ n.tmod 1000 ∧ n.tmod 1000 ≤ 999 := by
  by_cases h : 0 ≤ n
  · rw [Int.tmod_eq_emod_of_nonneg h]; omega
  · have h1 : n.tmod 1000 = -((-n).tmod 1000) := by rw [Int.neg_tmod]; omega
    rw [h1, Int.tmod_eq_emod_of_nonneg (by omega)]; omega
theorem ownE_bd (n : Int) : -1000 ≤ ownE n ∧ ownE n ≤ 1000 ∧ ownE n ≠ 0 := by
  have := tmod_bd n
  unfold ownE
  split <;> omega
def ownL (l : List Int) (most : Nat) : List Int := (l.take most).map ownE
theorem ownL_snoc (l : List Int) (k : Nat) (n : Int) (h : l[k]? = some n) : (l.take (k + 1)).map ownE = (l.take k).map ownE ++ [ownE n] := by
  rw [take_snoc _ k n h, List.map_append]; rfl
def ownV (l : List Int) (k : Nat) : List Value := ((l.take k).map ownE).map iV
theorem ownV_snoc (l : List Int) (k : Nat) (n : Int) (h : l[k]? = some n) : ownV l (k + 1) = ownV l k ++ [.int .i64 (ownE n)] := by
  unfold ownV
  rw [ownL_snoc l k n h, List.map_append]; rfl
def OwnRel (l : List Int) (most : Nat) (w wr : World) (v i : Value) : Prop :=
  ∃ (k : Nat) (u : Value), u = v ∧ k ≤ l.length ∧ k ≤ most ∧ i = .int .i64 k ∧ wr.ownsRow w.heap.size 3 1 u k (ownV l k) ∧ Below w.heap.size w wr
def OwnPost (l : List Int) (most : Nat) (w : World) (e : Ending) (w' : World) : Prop :=
  ∃ v, e = .returned v ∧ SlOf w' iV v (ownL l most) ∧ Below w.heap.size w w'
theorem own_done {l : List Int} {most k : Nat} {w wr : World} {v : Value} (hk : k ≤ l.length) (hm : k ≤ most) (h : k = l.length ∨ k = most) (ho : wr.ownsRow w.heap.size 3 1 v k (ownV l k)) (hb : Below w.heap.size w wr) :
    OwnPost l most w (.returned v) wr := by
  have he : l.take most = l.take k := by
    rcases h with h | h
    · subst h; rw [List.take_length, List.take_of_length_le (by omega)]
    · rw [h]
  refine ⟨v, rfl, ?_, hb⟩
  have hl : ((l.take k).map ownE).length = k := by simp; omega
  have := SlOf.of_own (f := iV) (xs := (l.take k).map ownE) (by rw [hl]; exact ho)
  unfold ownL
  rw [he]
  exact this
set_option maxHeartbeats 1000000 in
theorem own_any (lv : Value) (l : List Int) (most : Nat) (hm : most ≤ 100) (w : World) (hl : Reads w iV lv l) (hwf : ∀ n ∈ l, -9223372036854775808 ≤ n ∧ n ≤ 9223372036854775807) :
    Calls Try.prog 7 #[lv, .int .i64 most] w (OwnPost l most w) := by
  rcases hl with ⟨rfl, rfl⟩ | ⟨a, cap, rfl, hl1, hl2, hcell⟩
  · go_enter Try.func7, Try.ntmps7
    go_wp2_with fail
    go_loopw [5, 11] (fun v i wr => (v = .slice none 0 0 ∧ i = .int .i64 0) ∧ wr = w) (fun _ _ _ => 0)
    case atStart => exact ⟨⟨rfl, rfl⟩, rfl⟩
    case round =>
      obtain ⟨⟨rfl, rfl⟩, rfl⟩ := hrel
      go_wp2
      go_ret
      exact own_done (l := []) (k := 0) (by simp) (by omega) (.inl rfl) (World.ownsRow_nil _ _ _ _) (Below.refl _ _)
  · have HC := Lib.hid hcell; clear hcell
    have HWF := Lib.hid hwf; clear hwf
    have hmb : (most : Int) ≤ 100 := by omega
    have hlb : (l.length : Int) ≤ 9223372036854775807 := by omega
    go_enter Try.func7, Try.ntmps7
    go_wp2_with fail
    go_loopw [5, 11] (fun v i wr => OwnRel l most w wr v i) (fun _ i _ => l.length - (intOf i).toNat)
    case atStart => exact ⟨0, _, rfl, by omega, by omega, rfl, World.ownsRow_nil _ _ _ _, Below.refl _ _⟩
    case round =>
      obtain ⟨k, v, rfl, hk, hkm, rfl, hown, hb⟩ := hrel
      by_cases hlt : k < l.length
      · obtain ⟨n, hn⟩ : ∃ n, l[k]? = some n := ⟨_, List.getElem?_eq_getElem hlt⟩
        have hci : wr.cell? (a.add k) = some (.int .i64 n) := (hb.cell (World.block_lt_of_cell? w _ (HC.out k n hn))).trans (HC.out k n hn)
        by_cases hmo : k < most
        · have hsn := ownV_snoc l k n hn
          obtain ⟨ht1, ht2⟩ := tmod_bd n
          have he : ownE n = if n.tmod 1000 + 1001 > 1000 then 1000 - (n.tmod 1000 + 1001) else n.tmod 1000 + 1001 := rfl
          have hlt' : (k : Int) < l.length := by omega
          have hmo' : (k : Int) < most := by omega
          have HSN := Lib.hid hsn; clear hsn
          have HN := Lib.hid hn; clear hn
          obtain ⟨q, hq0⟩ : ∃ q, n.tmod 1000 = q := ⟨_, rfl⟩
          rw [hq0] at ht1 ht2 he
          by_cases hq : q + 1001 > 1000
          · rw [if_pos hq] at he
            have HE := Lib.hid he; clear he
            have hz : ((1000 - (q + 1001)) == 0) = false := by apply beq_false_of_ne; omega
            go_wp2_with (at_builtin
                         refine app1 rfl _ _ 22 3 rfl (.int .i64 0) 8 w.heap.size k Try.underlying22 int_info rfl v _ rfl hown rfl rfl (by omega) (by omega) hb.size ?_)
            intro v' w' ho' hg' hb'
            go_wp2
            go_roundw
            case rel => exact ⟨k + 1, _, rfl, by omega, by omega, by go_num, by rw [HSN.out, HE.out]; exact ho', hb.trans hb'⟩
            case measure => simp [intOf]; omega
          · rw [if_neg hq] at he
            have HE := Lib.hid he; clear he
            have hz : ((q + 1001) == 0) = false := by apply beq_false_of_ne; omega
            go_wp2_with (at_builtin
                         refine app1 rfl _ _ 22 3 rfl (.int .i64 0) 8 w.heap.size k Try.underlying22 int_info rfl v _ rfl hown rfl rfl (by omega) (by omega) hb.size ?_)
            intro v' w' ho' hg' hb'
            go_wp2
            go_roundw
            case rel => exact ⟨k + 1, _, rfl, by omega, by omega, by go_num, by rw [HSN.out, HE.out]; exact ho', hb.trans hb'⟩
            case measure => simp [intOf]; omega
        · have hkm' : k = most := by omega
          have HKM := Lib.hid hkm'; clear hkm'
          have hmo' : (most : Int) ≤ k := by omega
          have hlt' : (k : Int) < l.length := by omega
          clear hmo
          have HO := Lib.hid hown; clear hown
          go_wp2
          go_ret
          exact own_done hk hkm (.inr HKM.out) HO.out hb
      · have hkl : k = l.length := by omega
        have HKL := Lib.hid hkl; clear hkl
        have HO := Lib.hid hown; clear hown
        go_wp2
        go_ret
        exact own_done hk hkm (.inl HKL.out) HO.out hb

/-- is the literal n true? (the i-th truth is the i+1-th variable's) -/
def trueFrom (n : Int) : Nat → List Bool → Bool
  | _, [] => decide (n < 0)
  | i, t :: r => if n = (i : Int) + 1 then t else if n = -((i : Int) + 1) then !t else trueFrom n (i + 1) r
def trueB (n : Int) (ts : List Bool) : Bool := trueFrom n 0 ts
def bV (b : Bool) : Value := .bool b
set_option maxHeartbeats 1000000 in
theorem True_any (n : Int) (tv : Value) (ts : List Bool) (w : World) (hl : Reads w bV tv ts) :
    Calls Try.prog 13 #[.int .i64 n, tv] w fun e w' => e = .returned (.bool (trueB n ts)) ∧ w = w' := by
  rcases hl with ⟨rfl, rfl⟩ | ⟨a, cap, rfl, hl1, hl2, hcell⟩
  · go_enter Try.func13, Try.ntmps13
    go_wp2_with fail
    go_loop [9] (fun i => i = .int .i64 0) (fun _ => 0)
    case atStart => rfl
    case round =>
      obtain rfl := hrel
      go_wp2
      go_ret
      exact ⟨rfl, rfl⟩
  · have HC := Lib.hid hcell; clear hcell
    have hlb : (ts.length : Int) ≤ 9223372036854775807 := by omega
    go_enter Try.func13, Try.ntmps13
    go_wp2_with fail
    go_loop [9] (fun i => ∃ k : Nat, k ≤ ts.length ∧ i = .int .i64 k ∧ trueB n ts = trueFrom n k (ts.drop k)) (fun i => ts.length - (intOf i).toNat)
    case atStart => exact ⟨0, by omega, rfl, rfl⟩
    case round =>
      obtain ⟨k, hk, rfl, hr⟩ := hrel
      by_cases hlt : k < ts.length
      · obtain ⟨t, ht⟩ : ∃ t, ts[k]? = some t := ⟨_, List.getElem?_eq_getElem hlt⟩
        have hci : w.cell? (a.add k) = some (.bool t) := HC.out k t ht
        have hd : ts.drop k = t :: ts.drop (k + 1) := by
          rw [List.drop_eq_getElem_cons hlt]
          congr 1
          have := (List.getElem?_eq_some_iff.1 ht).2
          exact this
        rw [hd, trueFrom] at hr
        have hlt' : (k : Int) < ts.length := by omega
        have HD := Lib.hid hd; clear hd
        have HT := Lib.hid ht; clear ht
        by_cases e1 : n = (k : Int) + 1
        · rw [if_pos e1] at hr
          have HR := Lib.hid hr; clear hr
          have b1 : (n == (k : Int) + 1) = true := by simp [e1]
          have HE1 := Lib.hid e1; clear e1
          go_wp2
          go_ret
          exact ⟨ret_bool HR.out.symm, rfl⟩
        rw [if_neg e1] at hr
        have b1 : (n == (k : Int) + 1) = false := by simp [e1]
        by_cases e2 : n = -((k : Int) + 1)
        · rw [if_pos e2] at hr
          have HR := Lib.hid hr; clear hr
          have b2 : (n == -((k : Int) + 1)) = true := by simp [e2]
          have HE1 := Lib.hid e1; clear e1
          have HE2 := Lib.hid e2; clear e2
          go_wp2
          go_ret
          exact ⟨ret_bool HR.out.symm, rfl⟩
        rw [if_neg e2] at hr
        have HR := Lib.hid hr; clear hr
        have b2 : (n == -((k : Int) + 1)) = false := by simp [e2]
        have HE1 := Lib.hid e1; clear e1
        have HE2 := Lib.hid e2; clear e2
        go_wp2
        exact ⟨⟨k + 1, by omega, by go_num, HR.out⟩, by simp [intOf]; omega⟩
      · have hkl : k = ts.length := by omega
        rw [List.drop_of_length_le (by omega), trueFrom] at hr
        have HR := Lib.hid hr; clear hr
        have HKL := Lib.hid hkl; clear hkl
        go_wp2
        go_ret
        exact ⟨ret_bool HR.out.symm, rfl⟩

theorem trueFrom_pos (n : Int) : ∀ (ts : List Bool) (i : Nat), (i : Int) + 1 ≤ n → trueFrom n i ts = ts.getD (n - 1 - i).toNat false
  | [], i, h => by
    unfold trueFrom
    simp; omega
  | t :: r, i, h => by
    unfold trueFrom
    by_cases e : n = (i : Int) + 1
    · rw [if_pos e, show (n - 1 - (i : Int)).toNat = 0 by omega]; rfl
    · rw [if_neg e, if_neg (by omega), trueFrom_pos n r (i + 1) (by omega), show (n - 1 - (i : Int)).toNat = (n - 1 - ((i + 1 : Nat) : Int)).toNat + 1 by omega]
      rfl
theorem trueFrom_neg (n : Int) : ∀ (ts : List Bool) (i : Nat), n ≤ -((i : Int) + 1) → trueFrom n i ts = !(ts.getD (-n - 1 - i).toNat false)
  | [], i, h => by
    unfold trueFrom
    simp; omega
  | t :: r, i, h => by
    unfold trueFrom
    by_cases e : n = -((i : Int) + 1)
    · rw [if_neg (by omega), if_pos e, show (-n - 1 - (i : Int)).toNat = 0 by omega]; rfl
    · rw [if_neg (by omega), if_neg e, trueFrom_neg n r (i + 1) (by omega), show (-n - 1 - (i : Int)).toNat = (-n - 1 - ((i + 1 : Nat) : Int)).toNat + 1 by omega]
      rfl
theorem trueB_pos (n : Int) (ts : List Bool) (h : 1 ≤ n) : trueB n ts = ts.getD (n - 1).toNat false := by
  unfold trueB
  rw [trueFrom_pos n ts 0 (by omega)]
  congr 2; omega
theorem trueB_neg (n : Int) (ts : List Bool) (h : n ≤ -1) : trueB n ts = !(ts.getD (-n - 1).toNat false) := by
  unfold trueB
  rw [trueFrom_neg n ts 0 (by omega)]
  congr 3; omega
def cntL (ts : List Bool) (xs : List Int) : Int := ((xs.filter fun n => trueB n ts).length : Nat)
theorem cntL_bd (ts : List Bool) (xs : List Int) : 0 ≤ cntL ts xs ∧ cntL ts xs ≤ xs.length := by
  unfold cntL
  have := List.length_filter_le (fun n => trueB n ts) xs
  omega
theorem cntL_snoc (ts : List Bool) (xs : List Int) (k : Nat) (n : Int) (h : xs[k]? = some n) : cntL ts (xs.take (k + 1)) = cntL ts (xs.take k) + if trueB n ts = true then 1 else 0 := by
  unfold cntL
  rw [take_snoc _ k n h, List.filter_append]
  by_cases hb : trueB n ts = true
  · simp [List.filter_cons, hb]
  · simp [List.filter_cons, hb]
set_option maxHeartbeats 2000000 in
theorem Count_any (xv tv : Value) (xs : List Int) (ts : List Bool) (w : World) (hx : SlOf w iV xv xs) (hx60 : xs.length ≤ 60) (hbd : ∀ (j : Nat) (n : Int), xs[j]? = some n → -1000 ≤ n ∧ n ≤ 1000 ∧ n ≠ 0) (hl : Reads w bV tv ts) (ht : ts.length ≤ 1000) :
    Calls Try.prog 14 #[xv, tv] w fun e w' => e = .returned (.int .i64 (cntL ts xs)) ∧ w = w' := by
  obtain ⟨xa, xcap, rfl, hx1, hx2, hxc⟩ := hx
  have HXC := Lib.hid hxc; clear hxc
  have HBD := Lib.hid hbd; clear hbd
  have hlb : (ts.length : Int) ≤ 1000 := by omega
  have hxb : (xs.length : Int) ≤ 60 := by omega
  rcases hl with ⟨rfl, rfl⟩ | ⟨a, cap, rfl, hl1, hl2, hcell⟩
  · clear hlb ht
    go_enter Try.func14, Try.ntmps14
    go_wp2_with fail
    go_loop [5, 10] (fun c i => ∃ k : Nat, k ≤ xs.length ∧ i = .int .i64 k ∧ c = .int .i64 (cntL [] (xs.take k))) (fun _ i => xs.length - (intOf i).toNat)
    case atStart => exact ⟨0, by omega, rfl, rfl⟩
    case round =>
      obtain ⟨k, hk, rfl, rfl⟩ := hrel
      obtain ⟨hc1, hc2⟩ := cntL_bd [] (xs.take k)
      have hc3 : (xs.take k).length ≤ k := List.length_take_le _ _
      by_cases hlt : k < xs.length
      · obtain ⟨n, hn⟩ : ∃ n, xs[k]? = some n := ⟨_, List.getElem?_eq_getElem hlt⟩
        obtain ⟨b, off, rfl, hbl, hci⟩ := HXC.out k n hn
        unfold iV at hci
        obtain ⟨n1, n2, n3⟩ := HBD.out k n hn
        have HSN := Lib.hid (cntL_snoc [] xs k n hn)
        have HN := Lib.hid hn; clear hn
        generalize cntL [] (xs.take k) = c0 at hc1 hc2 HSN ⊢
        by_cases hp : 0 < n
        · have HB := Lib.hid (trueB_pos n [] (by omega))
          go_wp2
          exact ⟨⟨k + 1, by omega, by go_num, by rw [HSN.out, HB.out]; simp⟩, by simp [intOf]; omega⟩
        · have hng : n < 0 := by omega
          have HB := Lib.hid (trueB_neg n [] (by omega))
          go_wp2
          exact ⟨⟨k + 1, by omega, by go_num, by rw [HSN.out, HB.out]; simp⟩, by simp [intOf]; omega⟩
      · have hkl : k = xs.length := by omega
        have hft : xs.take k = xs := List.take_of_length_le (by omega)
        have HF := Lib.hid hft; clear hft
        have HKL := Lib.hid hkl; clear hkl
        go_wp2
        go_ret
        exact ⟨ret_int (by rw [HF.out]), rfl⟩
  · have HC := Lib.hid hcell; clear hcell
    go_enter Try.func14, Try.ntmps14
    go_wp2_with fail
    go_loop [5, 10] (fun c i => ∃ k : Nat, k ≤ xs.length ∧ i = .int .i64 k ∧ c = .int .i64 (cntL ts (xs.take k))) (fun _ i => xs.length - (intOf i).toNat)
    case atStart => exact ⟨0, by omega, rfl, rfl⟩
    case round =>
      obtain ⟨k, hk, rfl, rfl⟩ := hrel
      obtain ⟨hc1, hc2⟩ := cntL_bd ts (xs.take k)
      have hc3 : (xs.take k).length ≤ k := List.length_take_le _ _
      by_cases hlt : k < xs.length
      · obtain ⟨n, hn⟩ : ∃ n, xs[k]? = some n := ⟨_, List.getElem?_eq_getElem hlt⟩
        obtain ⟨b, off, rfl, hbl, hci⟩ := HXC.out k n hn
        unfold iV at hci
        obtain ⟨n1, n2, n3⟩ := HBD.out k n hn
        have HSN := Lib.hid (cntL_snoc ts xs k n hn)
        have HN := Lib.hid hn; clear hn
        generalize cntL ts (xs.take k) = c0 at hc1 hc2 HSN ⊢
        by_cases hp : 0 < n
        · have hB := trueB_pos n ts (by omega)
          by_cases hin : n ≤ ts.length
          · obtain ⟨t, hti⟩ : ∃ t, ts[(n - 1).toNat]? = some t := ⟨_, List.getElem?_eq_getElem (by omega)⟩
            have hct : w.cell? (a.add (n.toNat - 1)) = some (.bool t) := by rw [show n.toNat - 1 = (n - 1).toNat by omega]; exact HC.out _ t hti
            rw [List.getD, hti, Option.getD_some] at hB
            have HB := Lib.hid hB
            clear hB hti
            cases t
            · go_wp2
              exact ⟨⟨k + 1, by omega, by go_num, by rw [HSN.out, HB.out]; simp⟩, by simp [intOf]; omega⟩
            · go_wp2
              exact ⟨⟨k + 1, by omega, by go_num, by rw [HSN.out, HB.out]; simp⟩, by simp [intOf]; omega⟩
          · rw [List.getD, List.getElem?_eq_none (by omega)] at hB
            have HB := Lib.hid hB
            clear hB
            go_wp2
            exact ⟨⟨k + 1, by omega, by go_num, by rw [HSN.out, HB.out]; simp⟩, by simp [intOf]; omega⟩
        · have hng : n < 0 := by omega
          have hB := trueB_neg n ts (by omega)
          by_cases hin : n < -(ts.length : Int)
          · rw [List.getD, List.getElem?_eq_none (by omega)] at hB
            have HB := Lib.hid hB
            clear hB
            go_wp2
            exact ⟨⟨k + 1, by omega, by go_num, by rw [HSN.out, HB.out]; simp⟩, by simp [intOf]; omega⟩
          · obtain ⟨t, hti⟩ : ∃ t, ts[(-n - 1).toNat]? = some t := ⟨_, List.getElem?_eq_getElem (by omega)⟩
            have hct : w.cell? (a.add (-n - 1).toNat) = some (.bool t) := HC.out _ t hti
            have hct2 : w.cell? (a.add ((-n).toNat - 1)) = some (.bool t) := by rw [show (-n).toNat - 1 = (-n - 1).toNat by omega]; exact HC.out _ t hti
            rw [List.getD, hti, Option.getD_some] at hB
            have HB := Lib.hid hB
            clear hB hti
            cases t
            · go_wp2
              exact ⟨⟨k + 1, by omega, by go_num, by rw [HSN.out, HB.out]; simp⟩, by simp [intOf]; omega⟩
            · go_wp2
              exact ⟨⟨k + 1, by omega, by go_num, by rw [HSN.out, HB.out]; simp⟩, by simp [intOf]; omega⟩
      · have hkl : k = xs.length := by omega
        have hft : xs.take k = xs := List.take_of_length_le (by omega)
        have HF := Lib.hid hft; clear hft
        have HKL := Lib.hid hkl; clear hkl
        go_wp2
        go_ret
        exact ⟨ret_int (by rw [HF.out]), rfl⟩
end Go.Proofs.Ytfgoalgfpcalgaa
