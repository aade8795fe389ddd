/-
  Layer 3: what may be a tree, the tokens of a tree, tree.Print (the parts May3, BkA3, Bk3, PrtB3, Prt3 in one). Own work.
-/
import Derived.Test.YtpbkidmdfibaoaaGreatDoorRight3
import Derived.Test.YtpbkidmdfibaoaaGreatDoorCnt3
import Derived.Test.YtpbkidmdfibaoaaGreatDoorRefRef
import Derived.Test.YtpbkidmdfibaoaaGreatDoorEsc
import Derived.Test.YtpbkidmdfibaoaaGreatDoorRise2
import Derived.Test.YtpbkidmdfibaoaaGreatDoorOpen2
import Derived.Test.YtpbkidmdfibaoaaGreatDoorErr2
import Derived.Test.YtpbkidmdfibaoaaGreatDoorBase
import Derived.Test.YtpbkidmdfibaoaaGreatDoorBuilder
import Derived.Test.YtpbkidmdfibaoaaGreatDoorShelf
import Derived.Lib.OthersKept
import Derived.Test.YtpbkidmdfibaoaaGreatDoorMem2
import Derived.Test.YtpbkidmdfibaoaaGreatDoorAttr2
import Derived.Deep.RegionHeld3
import Derived.Test.YtpbkidmdfibaoaaGreatDoorLts3
import Derived.Test.YtpbkidmdfibaoaaGreatDoorAll2b
import Derived.Laws.EntriesVeiled
namespace Go.Proofs.YtpbkidmdfibaoaaGreatDoor
set_option linter.unusedVariables false
set_option linter.unusedSimpArgs false
open Go.RowKit

/-! May3 -/
section
def Tr.mayB (x : Tr) : Bool := x.rightB && decide (x.size ≤ 4096) && decide (x.dep ≤ 64)
set_option maxRecDepth 100000 in
set_option maxHeartbeats 2000000 in
theorem refMay_any (x : Tr) (va vk : Value) (w : World) (hz : x.size ≤ 1000000) (htb : x.tb) (hx : NdV w (allF w) x va vk) :
    Calls Tryz.prog 16 #[nodeV x va vk] w fun e w' => e = .returned (.bool x.mayB) ∧ Below w.heap.size w w' := by
  obtain ⟨c1, c2, c3, c4, rfl, rfl⟩ := node_cells hx
  unfold nodeV
  obtain ⟨R, hR⟩ : ∃ R, R = x.mayB := ⟨_, rfl⟩
  rw [← hR]
  unfold Tr.mayB at hR
  obtain ⟨w1, hw1⟩ : ∃ w1, w1 = w.alloc (.cells #[.string (str x.n), .slice c1 x.ats.length c2, .slice c3 x.ks.length c4, .string (str x.t)] 26) := ⟨_, rfl⟩
  have hb1 : Below w.heap.size w w1 := by rw [hw1]; exact (Below.refl _ _).alloc (Nat.le_refl _) _
  have hX : w1.heap[w.heap.size]? = some (.cells #[.string (str x.n), .slice c1 x.ats.length c2, .slice c3 x.ks.length c4, .string (str x.t)] 26 (0, 0)) := by rw [hw1]; exact heap_alloc_new w _
  have HXC := Lib.hid (show ∀ w2, Below w1.heap.size w1 w2 → Sr3 w.heap.size x c1 c2 c3 c4 w2 from fun w2 hb => Sr3.below ⟨by rw [cell_of_row w1 _ 0 _ _ (0, 0) hX]; rfl, by rw [cell_of_row w1 _ 1 _ _ (0, 0) hX]; rfl, by rw [cell_of_row w1 _ 2 _ _ (0, 0) hX]; rfl, by rw [cell_of_row w1 _ 3 _ _ (0, 0) hX]; rfl⟩ hb (Nat.le_refl _))
  have hup : ∀ w2, Below w1.heap.size w1 w2 → Below w.heap.size w w2 := fun w2 hb => hb1.trans (hb.mono hb1.size)
  have HUP := Lib.hid hup
  have HN := Lib.hid (show ∀ w2, Below w1.heap.size w1 w2 → NdV w2 (allF w2) x (.slice c1 x.ats.length c2) (.slice c3 x.ks.length c4) from fun w2 hb => hx.onto (hup w2 hb) (Nat.le_refl _))
  have HRG := Lib.hid (show ∀ w2, Below w1.heap.size w1 w2 → Calls Tryz.prog 35 #[.agg #[.string (str x.n), .slice c1 x.ats.length c2, .slice c3 x.ks.length c4, .string (str x.t)]] w2 fun e w' => e = .returned (.bool x.rightB) ∧ Below w2.heap.size w2 w' from fun w2 hb => right_any x htb _ _ w2 (HN.out w2 hb))
  have HCN := Lib.hid (show ∀ w2, Below w1.heap.size w1 w2 → Calls Tryz.prog 18 #[.agg #[.string (str x.n), .slice c1 x.ats.length c2, .slice c3 x.ks.length c4, .string (str x.t)]] w2 fun e w' => e = .returned (.int .i64 (x.size : Int)) ∧ Below w2.heap.size w2 w' from fun w2 hb => Count_any x hz _ _ w2 (HN.out w2 hb))
  have HDP := Lib.hid (show ∀ w2, Below w1.heap.size w1 w2 → Calls Tryz.prog 36 #[.agg #[.string (str x.n), .slice c1 x.ats.length c2, .slice c3 x.ks.length c4, .string (str x.t)]] w2 fun e w' => e = .returned (.int .i64 (x.dep : Int)) ∧ Below w2.heap.size w2 w' from fun w2 hb => Depth_any x hz _ _ w2 (HN.out w2 hb))
  have HW1 := Lib.hid hw1
  clear hx hw1 hb1 hX hup hz htb
  generalize hsz : x.size = S at HCN hR
  generalize hdp : x.dep = D at HDP hR
  generalize hrb : x.rightB = G at HRG hR
  clear hsz hdp hrb
  go_enter Tryz.func16, Tryz.ntmps16
  go_upto_region 1 with fail
  rw [← HW1.out]
  obtain ⟨x0, x1, x2, x3⟩ := HXC.out w1 (Below.refl _ _)
  cases G with
  | false =>
    have HV := Lib.hid (show R = false by rw [hR]; simp)
    clear hR
    go_wp2_with (go_at_call 35; refine (HRG.out _ (Below.refl _ _)).mono ?_; rintro e w2 ⟨rfl, hb2⟩)
    go_ret
    exact ⟨ret_bool HV.out.symm, HUP.out _ hb2⟩
  | true =>
    go_wp2_with fail
    refine (HRG.out _ (Below.refl _ _)).mono ?_
    rintro e w2 ⟨rfl, hb2⟩
    have HB2 := Lib.hid hb2
    clear x0 x1 x2 x3 hb2
    obtain ⟨x0, x1, x2, x3⟩ := HXC.out w2 HB2.out
    go_wp2_with fail
    refine (HCN.out _ HB2.out).mono ?_
    rintro e w3 ⟨rfl, hb3⟩
    have HB3 := Lib.hid (HB2.out.trans (hb3.mono HB2.out.size))
    clear x0 x1 x2 x3 hb3
    obtain ⟨x0, x1, x2, x3⟩ := HXC.out w3 HB3.out
    by_cases hS : S ≤ 4096
    · have hSI : (S : Int) ≤ 4096 := by omega
      by_cases hD : D ≤ 64
      · have hDI : (D : Int) ≤ 64 := by omega
        have HV := Lib.hid (show R = true by rw [hR]; simp [hS, hD])
        clear hR
        go_wp2_with (go_at_call 36; refine (HDP.out _ HB3.out).mono ?_; rintro e w4 ⟨rfl, hb4⟩)
        go_ret
        exact ⟨ret_bool HV.out.symm, (HUP.out _ HB3.out).trans (hb4.mono (HUP.out _ HB3.out).size)⟩
      · have hDI : ¬ ((D : Int) ≤ 64) := by omega
        have HV := Lib.hid (show R = false by rw [hR]; simp [hD])
        clear hR
        go_wp2_with (go_at_call 36; refine (HDP.out _ HB3.out).mono ?_; rintro e w4 ⟨rfl, hb4⟩)
        go_ret
        exact ⟨ret_bool ((decide_eq_false (by omega)).trans HV.out.symm), (HUP.out _ HB3.out).trans (hb4.mono (HUP.out _ HB3.out).size)⟩
    · have hSI : ¬ ((S : Int) ≤ 4096) := by omega
      have HV := Lib.hid (show R = false by rw [hR]; simp [hS])
      clear hR
      go_wp2_with fail
      go_ret
      exact ⟨ret_bool HV.out.symm, HUP.out _ HB3.out⟩
end
/-! BkA3 -/
section
/-! EscR -/
section

/-- a number of decimal digits, with a semicolon behind it, is the letter -/
theorem refS_dec (ds r : List UInt8) (hd : ∀ c ∈ ds, (dval 10 c).isSome = true) (h1 : 1 ≤ ds.length) (h8 : ds.length ≤ 8) (h120 : ds.head? ≠ some 120) (ho : letOk (dnum 10 ds) = true) :
    refS ([38, 35] ++ ds ++ 59 :: r) = (letB (dnum 10 ds), ds.length + 3, 0) := by
  have hx : [38, 35, 120].isPrefixOf ([38, 35] ++ ds ++ 59 :: r) = false := by
    cases ds with
    | nil => simp at h1
    | cons c ds => simp at h120; simp [List.isPrefixOf]; exact fun h => h120 h.symm
  have h2 : [38, 35].isPrefixOf ([38, 35] ++ ds ++ 59 :: r) = true := by simp [List.isPrefixOf]
  unfold refS
  rw [if_neg (by rw [hx]; decide), if_pos h2]
  have hk : ([38, 35] ++ ds ++ 59 :: r)[2 + ds.length]? = some 59 := by
    rw [List.getElem?_append_right (by simp; omega)]
    have : 2 + ds.length - ([38, 35] ++ ds : List UInt8).length = 0 := by simp; omega
    rw [this]; rfl
  have hall : AllDig 10 ([38, 35] ++ ds ++ 59 :: r) 2 (2 + ds.length) := by
    intro i c a1 a2 a3
    rw [List.getElem?_append_left (by simp; omega), List.getElem?_append_right (by simp; omega)] at a3
    exact hd c (List.mem_of_getElem? a3)
  have htk : (([38, 35] ++ ds ++ 59 :: r).drop 2).take (2 + ds.length - 2) = ds := by simp
  rw [num_fin (k := 2 + ds.length) (by omega) (by omega) hall (by simp; omega) (.inr (.inr ⟨59, hk, dval_59⟩)), fin_some (by omega) hk (by rw [htk]; exact ho), htk]
  simp; omega

/-- what stands for a byte is read as that byte -/
theorem refS_esc (b : Bool) (c : UInt8) (r : List UInt8) (h : escOk b c = true) : refS (esc1 b c ++ r) = (⟨#[c]⟩, (esc1 b c).length, 0) := by
  simp [escOk] at h
  have w0 (x : List UInt8) (t : UInt8) (hp : refS (x ++ r) = (⟨#[t]⟩, x.length, 0)) (he : esc1 b c = x) (hc : c = t) : refS (esc1 b c ++ r) = (⟨#[c]⟩, (esc1 b c).length, 0) := by
    rw [he, hc]; exact hp
  have p (x y : List UInt8) : Lib.hasPrefix (x ++ y) x = true := List.isPrefixOf_iff_prefix.2 (List.prefix_append _ _)
  rcases h with (((h | h) | h) | h) | ⟨rfl, (h | h) | h⟩
  · exact w0 _ 38 (refS_word2 (p _ _)) (by subst h; cases b <;> rfl) h
  · exact w0 _ 60 (refS_word0 (p _ _)) (by subst h; cases b <;> rfl) h
  · exact w0 _ 62 (refS_word1 (p _ _)) (by subst h; cases b <;> rfl) h
  · refine w0 [38, 35, 49, 51, 59] 13 ?_ (by subst h; cases b <;> rfl) h
    exact refS_dec [49, 51] r (by decide) (by decide) (by decide) (by decide) (by decide)
  · exact w0 _ 34 (refS_word3 (p _ _)) (by subst h; rfl) h
  · refine w0 [38, 35, 57, 59] 9 ?_ (by subst h; rfl) h
    exact refS_dec [57] r (by decide) (by decide) (by decide) (by decide) (by decide)
  · refine w0 [38, 35, 49, 48, 59] 10 ?_ (by subst h; rfl) h
    exact refS_dec [49, 48] r (by decide) (by decide) (by decide) (by decide) (by decide)

theorem esc1_pos (b : Bool) (c : UInt8) : 1 ≤ (esc1 b c).length := by
  unfold esc1
  repeat' split
  all_goals simp
theorem esc1_head (b : Bool) (c : UInt8) (h : escOk b c = true) : (esc1 b c)[0]? = some 38 := by
  simp [escOk] at h
  rcases h with (((h | h) | h) | h) | ⟨rfl, (h | h) | h⟩ <;> subst h <;> (try cases b) <;> rfl
end
/-! Plain2 -/
section
/-- e c is read as c, before stop -/
def OkE (stop : UInt8) (e : UInt8 → List UInt8) (c : UInt8) : Prop :=
  (e c = [c] ∧ c ≠ stop ∧ c ≠ 38 ∧ c ≠ 60 ∧ tx c = true) ∨ ∃ x, e c = 38 :: x ∧ ∀ r, refS (e c ++ r) = (⟨#[c]⟩, (e c).length, 0)
theorem let_map {stop : UInt8} {opn : Bool} {e : UInt8 → List UInt8} (hst : stop ≠ 38) : ∀ (s : List UInt8) (f : Nat) (acc tail : List UInt8), s.length ≤ f → (∀ c ∈ s, OkE stop e c) →
    letM stop opn f acc (s.flatMap e ++ tail) = letM stop opn (f - s.length) (acc ++ s) tail
  | [], f, acc, tail, _, _ => by simp
  | c :: s, 0, acc, tail, h, _ => by simp at h
  | c :: s, f + 1, acc, tail, h, hok => by
    have hf : f + 1 - (c :: s).length = f - s.length := by simp
    have ih := let_map (opn := opn) (e := e) hst s f (acc ++ [c]) tail (by simpa using h) (fun d hd => hok d (List.mem_cons_of_mem _ hd))
    have ea : acc ++ (c :: s) = acc ++ [c] ++ s := by simp
    rw [hf, ea, ← ih, List.flatMap_cons, List.append_assoc]
    rcases hok c List.mem_cons_self with ⟨he, h1, h2, h3, h4⟩ | ⟨x, he, hr⟩
    · rw [he]
      show letM stop opn (f + 1) acc (c :: (s.flatMap e ++ tail)) = _
      rw [letM, if_neg h1, if_neg h2, if_neg (by simp [h3, h4])]
    · have hrr := hr (s.flatMap e ++ tail)
      have hd : (e c ++ (s.flatMap e ++ tail)).drop (e c).length = s.flatMap e ++ tail := by simp
      rw [he] at hrr hd ⊢
      generalize hL : (38 :: x).length = L at hrr hd
      show letM stop opn (f + 1) acc (38 :: (x ++ (s.flatMap e ++ tail))) = _
      change refS (38 :: (x ++ (s.flatMap e ++ tail))) = _ at hrr
      change (38 :: (x ++ (s.flatMap e ++ tail))).drop L = _ at hd
      rw [letM, if_neg (Ne.symm hst), if_pos rfl]
      simp only [hrr, hd]
/-- what Escape writes for a text -/
theorem okE_esc {c : UInt8} (h : tx c = true) : OkE 60 (esc1 false) c := by
  cases hok : escOk false c with
  | true =>
    have h0 := esc1_head false c hok
    cases he : esc1 false c with
    | nil => rw [he] at h0; simp at h0
    | cons d x =>
      rw [he] at h0
      obtain rfl : d = 38 := by simpa using h0
      exact .inr ⟨x, he, fun r => refS_esc false c r hok⟩
  | false =>
    refine .inl ⟨esc1_no hok, ?_, ?_, ?_, h⟩ <;> (rintro rfl; simp [escOk] at hok)
theorem let_esc (s : List UInt8) (f : Nat) (hf : s.length < f) (h : ∀ c ∈ s, tx c = true) : letM 60 true f [] (escS false s) = .ok s [] := by
  have := let_map (stop := 60) (opn := true) (e := esc1 false) (by decide) s f [] [] (by omega) (fun c hc => okE_esc (h c hc))
  rw [List.append_nil] at this
  unfold escS
  rw [this]
  obtain ⟨g, hg⟩ : ∃ g, f - s.length = g + 1 := ⟨f - s.length - 1, by omega⟩
  rw [hg, letM]
  simp
/-- letters up to the end of a CDATA -/
theorem bet_cd : ∀ (s acc : List UInt8), (∀ c ∈ s, tx c = true) → (∀ i, (s.drop i).take 3 ≠ cdB) → s.getLast? ≠ some 93 → betM cdB acc (s ++ cdB) = .ok (acc ++ s) []
  | [], acc, _, _, _ => by
    show betM cdB acc [93, 93, 62] = _
    unfold betM
    rw [if_pos (by decide)]
    simp [cdB]
  | c :: s, acc, ht, hn, hl => by
    have hno : cdB.isPrefixOf (c :: (s ++ cdB)) = false := by
      rw [Bool.eq_false_iff]
      intro h
      match s, hn, hl with
      | [], _, hl => simp [cdB, List.isPrefixOf] at h
      | [d], _, hl => simp [cdB, List.isPrefixOf] at h
      | d :: e :: s, hn, _ =>
        simp [cdB, List.isPrefixOf] at h
        exact hn 0 (by simp [cdB, ← h.1, ← h.2.1, ← h.2.2])
    have ih := bet_cd s (acc ++ [c]) (fun d hd => ht d (List.mem_cons_of_mem _ hd)) (fun i => hn (i + 1)) (by
      intro hq
      apply hl
      cases s with
      | nil => simp at hq
      | cons d s => rw [List.getLast?_cons_cons]; exact hq)
    show betM cdB acc (c :: (s ++ cdB)) = _
    rw [betM, if_neg (by rw [hno]; decide), if_pos (ht c List.mem_cons_self), ih]
    simp
/-- a text of one token -/
theorem all_one {l : List UInt8} {t : Tk} (h0 : l ≠ []) (hl : l.length ≤ 65536) (hp : pieceM 0 l = .ok t []) : allM l = .ok [t] [] := by
  unfold allM
  rw [if_neg (by omega)]
  obtain ⟨m, hm⟩ : ∃ m, l.length = m + 1 := ⟨l.length - 1, by have := List.length_pos_iff.2 h0; omega⟩
  rw [goM, if_neg h0, Nat.sub_self, hp]
  show goM l l.length ([] ++ [t]) [] = _
  rw [hm, goM, if_pos rfl]
  rfl
/-- of two -/
theorem all_two2 {l r : List UInt8} {t u : Tk} (h0 : l ≠ []) (h1 : r ≠ []) (hrl : 2 ≤ l.length) (hl : l.length ≤ 65536) (hp : pieceM 0 l = .ok t r) (hp2 : pieceM (l.length - r.length) r = .ok u []) : allM l = .ok [t, u] [] := by
  unfold allM
  rw [if_neg (by omega)]
  obtain ⟨m, hm⟩ : ∃ m, l.length = m + 2 := ⟨l.length - 2, by omega⟩
  rw [goM, if_neg h0, Nat.sub_self, hp]
  show goM l l.length ([] ++ [t]) r = _
  rw [hm, goM, if_neg h1, hp2]
  show goM l (m + 1) ([] ++ [t] ++ [u]) [] = _
  rw [goM, if_pos rfl]
  rfl
theorem all_cd {s : List UInt8} (hs : s.length ≤ 2000) (ht : ∀ c ∈ s, tx c = true) (hn : ∀ i, (s.drop i).take 3 ≠ cdB) (hl : s.getLast? ≠ some 93) : allM (cdF ++ s ++ cdB) = .ok [⟨4, [], [], s, 0⟩] [] := by
  refine all_one (by simp [cdF]) (by simp [cdF, cdB]; omega) ?_
  have hb := bet_cd s [] ht hn hl
  show pieceM 0 (60 :: 33 :: 91 :: 67 :: 68 :: 65 :: 84 :: 65 :: 91 :: (s ++ cdB)) = _
  rw [pieceM, if_neg (by decide), if_neg (by simp [noteF, List.isPrefixOf]), if_pos (by simp [cdF, List.isPrefixOf])]
  show (betM cdB [] (s ++ cdB)).bind _ = _
  rw [hb]
  rfl
theorem esc_nil {s : List UInt8} : escS false s = [] ↔ s = [] := by
  constructor
  · intro h
    cases s with
    | nil => rfl
    | cons c s =>
      have := esc1_pos false c
      simp [escS] at h
      rw [h.1] at this
      simp at this
  · rintro rfl; rfl
theorem esc_first {c d : UInt8} {s r : List UInt8} (h : escS false (c :: s) = d :: r) : d ≠ 60 := by
  rintro rfl
  have h1 : escS false (c :: s) = esc1 false c ++ escS false s := by simp [escS]
  rw [h1] at h
  cases hok : escOk false c with
  | true =>
    have h0 := esc1_head false c hok
    cases he : esc1 false c with
    | nil => rw [he] at h0; simp at h0
    | cons e x => rw [he] at h0 h; simp at h0 h; exact absurd (h0.symm.trans h.1) (by decide)
  | false =>
    rw [esc1_no hok] at h
    simp at h
    rw [h.1] at hok
    simp [escOk] at hok
theorem piece_a (r : List UInt8) : pieceM 0 (60 :: 97 :: 47 :: 62 :: r) = .ok ⟨2, [97], [], [], 0⟩ r := by
  have hn : nameM 11 (97 :: 47 :: 62 :: r) = .ok [97] (47 :: 62 :: r) := by
    rw [nameM, if_neg (by simp)]
    have : nameL (97 :: 47 :: 62 :: r) = 1 := by kernel_rfl
    rw [this, if_neg (by decide)]
    rfl
  have ha : attrsM ((47 :: 62 :: r).length + 1) [] (47 :: 62 :: r) = .ok [] (47 :: 62 :: r) := by
    rw [attrsM, if_pos (by rw [blanksM, List.dropWhile_cons_of_neg (by decide)])]
  rw [pieceM, if_neg (by decide), if_neg (by simp [noteF, List.isPrefixOf]), if_neg (by simp [cdF, List.isPrefixOf]), if_neg (by simp [headM, headF, List.isPrefixOf]), if_neg (by simp), openM, hn]
  show (((attrsM ((47 :: 62 :: r).length + 1) [] (47 :: 62 :: r)).bind _).bind _) = _
  rw [ha]
  rfl
def escT (s : List UInt8) : List UInt8 := 60 :: 97 :: 47 :: 62 :: escS false s
theorem all_esc {s : List UInt8} (hs : s.length ≤ 2000) (ht : ∀ c ∈ s, tx c = true) : allM (escT s) = .ok (if s = [] then [⟨2, [97], [], [], 0⟩] else [⟨2, [97], [], [], 0⟩, ⟨4, [], [], s, 4⟩]) [] := by
  have hlen := escS_len false s
  unfold escT
  by_cases h : s = []
  · subst h
    rw [if_pos rfl]
    exact all_one (by simp) (by simp [escS]) (piece_a _)
  · rw [if_neg h]
    refine all_two2 (by simp) (fun he => h (esc_nil.1 he)) (by simp) (by simp; omega) (piece_a _) ?_
    have e4 : (60 :: 97 :: 47 :: 62 :: escS false s).length - (escS false s).length = 4 := by simp; omega
    rw [e4]
    cases s with
    | nil => exact absurd rfl h
    | cons c s =>
      have hp := esc1_pos false c
      cases hE : escS false (c :: s) with
      | nil => exact absurd (esc_nil.1 hE) h
      | cons d r =>
        have hd := esc_first hE
        have hl := let_esc (c :: s) ((d :: r).length + 1) (by
          rw [← hE]
          have : ∀ s : List UInt8, s.length ≤ (escS false s).length := by
            intro s
            induction s with
            | nil => simp
            | cons c s ih => have := esc1_pos false c; simp [escS] at ih ⊢; omega
          have := this (c :: s)
          omega) ht
        rw [hE] at hl
        rw [pieceM, if_pos hd, hl]
        rfl
end
/-! Tags2 -/
section
/-- references for its ' -/
def apos1 (c : UInt8) : List UInt8 := if c = 39 then [38, 97, 112, 111, 115, 59] else [c]
def aposL (l : List UInt8) : List UInt8 := l.flatMap apos1
def eA (c : UInt8) : List UInt8 := aposL (esc1 true c)
theorem apos_esc (v : List UInt8) : aposL (escS true v) = v.flatMap eA := by
  unfold aposL escS eA aposL
  rw [List.flatMap_assoc]
theorem apos_no : ∀ {l : List UInt8}, (∀ c ∈ l, c ≠ 39) → aposL l = l
  | [], _ => rfl
  | c :: l, h => by
    have ih := apos_no (l := l) fun d hd => h d (List.mem_cons_of_mem _ hd)
    unfold aposL at ih ⊢
    rw [List.flatMap_cons, ih, apos1, if_neg (h c List.mem_cons_self)]
    rfl
theorem esc1_39 {c : UInt8} (hc : escOk true c = true) : ∀ d ∈ esc1 true c, d ≠ 39 := by
  simp [escOk] at hc
  rcases hc with (((h | h) | h) | h) | ((h | h) | h) <;> subst h <;> decide
theorem okE_34 {c : UInt8} (h : tx c = true) : OkE 34 (esc1 true) c := by
  cases hok : escOk true c with
  | true =>
    have h0 := esc1_head true c hok
    cases he : esc1 true c with
    | nil => rw [he] at h0; simp at h0
    | cons d x =>
      rw [he] at h0
      obtain rfl : d = 38 := by simpa using h0
      exact .inr ⟨x, he, fun r => refS_esc true c r hok⟩
  | false =>
    refine .inl ⟨esc1_no hok, ?_, ?_, ?_, h⟩ <;> (rintro rfl; simp [escOk] at hok)
theorem okE_39 {c : UInt8} (h : tx c = true) : OkE 39 eA c := by
  cases hok : escOk true c with
  | true =>
    have h0 := esc1_head true c hok
    have hn : eA c = esc1 true c := apos_no (esc1_39 hok)
    cases he : esc1 true c with
    | nil => rw [he] at h0; simp at h0
    | cons d x =>
      rw [he] at h0
      obtain rfl : d = 38 := by simpa using h0
      refine .inr ⟨x, by rw [hn, he], fun r => ?_⟩
      rw [hn]
      exact refS_esc true c r hok
  | false =>
    by_cases h39 : c = 39
    · subst h39
      refine .inr ⟨[97, 112, 111, 115, 59], by rw [eA, esc1_no hok]; rfl, fun r => ?_⟩
      rw [show eA 39 = [38, 97, 112, 111, 115, 59] by rw [eA, esc1_no hok]; rfl]
      exact refS_word4 (List.isPrefixOf_iff_prefix.2 (List.prefix_append _ _))
    · have hn : eA c = [c] := by rw [eA, esc1_no hok, aposL, List.flatMap_cons, apos1, if_neg h39]; rfl
      refine .inl ⟨hn, h39, ?_, ?_, h⟩ <;> (rintro rfl; simp [escOk] at hok)
/-- a name -/
def isN (n : List UInt8) : Prop := n ≠ [] ∧ nameL n = n.length
theorem isN_first {n : List UInt8} (h : isN n) : ∃ c r, n = c :: r ∧ isFirst (c.toNat : Int) = true ∧ ∀ d ∈ r, isName (d.toNat : Int) = true := by
  obtain ⟨h1, h2⟩ := h
  cases n with
  | nil => exact absurd rfl h1
  | cons c r =>
    rw [nameL] at h2
    by_cases hf : isFirst (c.toNat : Int) = true
    · rw [if_pos hf] at h2
      refine ⟨c, r, rfl, hf, fun d hd => ?_⟩
      have hl : (r.takeWhile fun d => isName (d.toNat : Int)).length = r.length := by simp only [List.length_cons] at h2; omega
      obtain ⟨i, hi⟩ := List.getElem?_of_mem hd
      exact tw_all (fun d : UInt8 => isName (d.toNat : Int)) r i d (by rw [hl]; exact (List.getElem?_eq_some_iff.1 hi).1) hi
    · rw [if_neg hf] at h2
      simp at h2
theorem tw_app {p : UInt8 → Bool} : ∀ {r R : List UInt8}, (∀ d ∈ r, p d = true) → (∀ c, R.head? = some c → p c = false) → (r ++ R).takeWhile p = r
  | [], [], _, _ => rfl
  | [], c :: R, _, h => by rw [List.nil_append, List.takeWhile_cons, h c rfl]; rfl
  | d :: r, R, hr, h => by
    rw [List.cons_append, List.takeWhile_cons, hr d List.mem_cons_self, tw_app (fun e he => hr e (List.mem_cons_of_mem _ he)) h]
    rfl
theorem nameM_app {e : Int} {n R : List UInt8} (h : isN n) (hR : ∀ c, R.head? = some c → isName (c.toNat : Int) = false) : nameM e (n ++ R) = .ok n R := by
  obtain ⟨c, r, rfl, hf, hr⟩ := isN_first h
  have hl : nameL ((c :: r) ++ R) = (c :: r).length := by
    rw [List.cons_append, nameL, if_pos hf, tw_app hr hR]
    simp; omega
  rw [nameM, if_neg (by simp), hl, if_neg (by simp), List.take_left, List.drop_left]
theorem first_not {c : UInt8} (h : isFirst (c.toNat : Int) = true) : bl c = false ∧ c ≠ 47 ∧ c ≠ 62 := by
  refine ⟨?_, ?_, ?_⟩
  · unfold bl isBlank
    simp [isFirst] at h
    simp only [Bool.or_eq_false_iff, beq_eq_false_iff_ne]
    omega
  · rintro rfl; simp [isFirst] at h
  · rintro rfl; simp [isFirst] at h
/-- what an attribute is written as -/
def pcA : Bool × At2 → List UInt8
  | (true, n, v) => 10 :: (n ++ [32, 61, 9, 39] ++ v.flatMap eA ++ [39])
  | (false, n, v) => 32 :: (n ++ [61, 34] ++ escS true v ++ [34])
theorem blanks_no {c : UInt8} {r : List UInt8} (h : bl c = false) : blanksM (c :: r) = c :: r := by unfold blanksM; rw [List.dropWhile_cons, if_neg (by rw [h]; simp)]
theorem blanks_yes {c : UInt8} {r : List UInt8} (h : bl c = true) : blanksM (c :: r) = blanksM r := by unfold blanksM; rw [List.dropWhile_cons, if_pos h]
theorem any_none {ats : List At2} {n : List UInt8} (h : ∀ a ∈ ats, a.1 ≠ n) : ats.any (fun a => a.1 == n) = false := by
  rw [List.any_eq_false]
  intro a ha
  simpa using h a ha
theorem let_done {stop : UInt8} {f : Nat} {acc r : List UInt8} (hf : 0 < f) : letM stop false f acc (stop :: r) = .ok acc (stop :: r) := by
  obtain ⟨g, rfl⟩ : ∃ g, f = g + 1 := ⟨f - 1, by omega⟩
  exact let_stop
theorem flat_ge {e : UInt8 → List UInt8} : ∀ {v : List UInt8}, (∀ c ∈ v, 1 ≤ (e c).length) → v.length ≤ (v.flatMap e).length
  | [], _ => by simp
  | c :: v, h => by
    have := flat_ge (v := v) fun d hd => h d (List.mem_cons_of_mem _ hd)
    have h1 := h c List.mem_cons_self
    simp only [List.flatMap_cons, List.length_append, List.length_cons]
    omega
theorem okE_pos {stop : UInt8} {e : UInt8 → List UInt8} {c : UInt8} (h : OkE stop e c) : 1 ≤ (e c).length := by
  rcases h with ⟨h, _⟩ | ⟨x, h, _⟩ <;> rw [h] <;> simp
theorem let_quote {stop : UInt8} {e : UInt8 → List UInt8} (hst : stop ≠ 38) {v rest : List UInt8} (hok : ∀ c ∈ v, OkE stop e c) :
    letM stop false ((v.flatMap e ++ stop :: rest).length + 1) [] (v.flatMap e ++ stop :: rest) = .ok v (stop :: rest) := by
  have hl := flat_ge (v := v) (e := e) fun c hc => okE_pos (hok c hc)
  rw [let_map hst v _ _ _ (by simp only [List.length_append, List.length_cons]; omega) hok]
  exact let_done (by simp only [List.length_append, List.length_cons]; omega)
theorem attr_step {ats : List At2} {r r1 r2 r3 n : List UInt8} {q : UInt8} (h1 : nameM 10 r = .ok n r1) (h2 : ats.any (fun a => a.1 == n) = false) (h3 : mustM 61 (blanksM r1) = .ok () r2) (h4 : blanksM r2 = q :: r3) (h5 : (decide (q = 34) || decide (q = 39)) = true) :
    attrM ats r = (letM q false (r3.length + 1) [] r3).bind fun v r4 => .ok (n, v) (r4.drop 1) := by
  unfold attrM
  rw [h1]
  show (ite _ _ _ : Rs At2) = _
  rw [if_neg (by rw [h2]; decide), h3]
  simp only [Rs.bind, h4, h5, if_true]
/-- an attribute is read -/
theorem attr_read {ats : List At2} {n v rest : List UInt8} {b : Bool} (hn : isN n) (ht : ∀ c ∈ v, tx c = true) (hd : ∀ a ∈ ats, a.1 ≠ n) :
    attrM ats ((pcA (b, n, v)).drop 1 ++ rest) = .ok (n, v) rest := by
  cases b with
  | true =>
    have hl : (pcA (true, n, v)).drop 1 ++ rest = n ++ (32 :: 61 :: 9 :: 39 :: (v.flatMap eA ++ 39 :: rest)) := by simp [pcA]
    rw [hl, attr_step (q := 39) (r3 := v.flatMap eA ++ 39 :: rest) (r2 := 9 :: 39 :: (v.flatMap eA ++ 39 :: rest)) (nameM_app hn (by intro c hc; simp at hc; subst hc; decide)) (any_none hd)
      (by rw [blanks_yes (by decide), blanks_no (by decide), mustM, if_pos rfl]) (by rw [blanks_yes (by decide), blanks_no (by decide)]) (by decide), let_quote (by decide) fun c hc => okE_39 (ht c hc)]
    rfl
  | false =>
    have hl : (pcA (false, n, v)).drop 1 ++ rest = n ++ (61 :: 34 :: (v.flatMap (esc1 true) ++ 34 :: rest)) := by simp [pcA, escS]
    rw [hl, attr_step (q := 34) (r3 := v.flatMap (esc1 true) ++ 34 :: rest) (r2 := 34 :: (v.flatMap (esc1 true) ++ 34 :: rest)) (nameM_app hn (by intro c hc; simp at hc; subst hc; decide)) (any_none hd)
      (by rw [blanks_no (by decide), mustM, if_pos rfl]) (by rw [blanks_no (by decide)]) (by decide), let_quote (by decide) fun c hc => okE_34 (ht c hc)]
    rfl
/-- what may stand -/
def okA (p : At2) : Prop := isN p.1 ∧ ∀ c ∈ p.2, tx c = true
theorem attrs_read {tail : List UInt8} : ∀ (bs : List (Bool × At2)) (f : Nat) (ats : List At2), bs.length ≤ f → (∀ p ∈ bs, okA p.2) → (∀ p ∈ bs, ∀ a ∈ ats, a.1 ≠ p.2.1) → (bs.map (fun p => p.2.1)).Nodup →
    attrsM f ats (bs.flatMap pcA ++ tail) = attrsM (f - bs.length) (ats ++ bs.map (·.2)) tail
  | [], f, ats, _, _, _, _ => by simp
  | p :: bs, 0, ats, h, _, _, _ => by simp at h
  | (b, n, v) :: bs, f + 1, ats, h, hok, hd, hnd => by
    have hp : okA (n, v) := hok (b, n, v) List.mem_cons_self
    have hdn : ∀ a ∈ ats, a.1 ≠ n := hd (b, n, v) List.mem_cons_self
    rw [List.map_cons, List.nodup_cons] at hnd
    have ih := attrs_read (tail := tail) bs f (ats ++ [(n, v)]) (by simpa using h) (fun p hp => hok p (List.mem_cons_of_mem _ hp)) (fun p hp a ha => by
      rcases List.mem_append.1 ha with ha | ha
      · exact hd p (List.mem_cons_of_mem _ hp) a ha
      · rw [List.mem_singleton] at ha
        subst ha
        intro he
        exact hnd.1 (he ▸ List.mem_map_of_mem (f := fun p : Bool × At2 => p.2.1) hp)) hnd.2
    have hA := attr_read (b := b) (n := n) (v := v) (rest := bs.flatMap pcA ++ tail) hp.1 hp.2 hdn
    have hn1 : isN n := hp.1
    obtain ⟨c, r, hc, hf, _⟩ := isN_first hn1
    obtain ⟨n1, n2, n3⟩ := first_not hf
    obtain ⟨c0, hc0, x, hx⟩ : ∃ c0, bl c0 = true ∧ ∃ x, pcA (b, n, v) = c0 :: c :: x := by
      cases b
      · exact ⟨32, by decide, r ++ [61, 34] ++ escS true v ++ [34], by show 32 :: (n ++ [61, 34] ++ escS true v ++ [34]) = _; rw [hc]; simp⟩
      · exact ⟨10, by decide, r ++ [32, 61, 9, 39] ++ v.flatMap eA ++ [39], by show 10 :: (n ++ [32, 61, 9, 39] ++ v.flatMap eA ++ [39]) = _; rw [hc]; simp⟩
    rw [hx] at hA
    have e1 : ((b, n, v) :: bs).flatMap pcA ++ tail = c0 :: c :: (x ++ (bs.flatMap pcA ++ tail)) := by rw [List.flatMap_cons, hx]; simp
    have e2 : blanksM (c0 :: c :: (x ++ (bs.flatMap pcA ++ tail))) = c :: (x ++ (bs.flatMap pcA ++ tail)) := by rw [blanks_yes hc0, blanks_no n1]
    rw [e1, attrsM, e2, if_neg (by intro h; have := congrArg List.length h; simp at this)]
    show (ite _ _ _ : Rs (List At2)) = _
    rw [if_neg (by simp [n2, n3])]
    have hA2 : attrM ats (c :: (x ++ (bs.flatMap pcA ++ tail))) = .ok (n, v) (bs.flatMap pcA ++ tail) := hA
    rw [hA2]
    show attrsM f (ats ++ [(n, v)]) (bs.flatMap pcA ++ tail) = _
    rw [ih]
    simp
/-- a tag's text -/
def tagT (n : List UInt8) (bs : List (Bool × At2)) : List UInt8 := 60 :: (n ++ bs.flatMap pcA)
theorem head_pc {bs : List (Bool × At2)} {tail : List UInt8} (ht : ∀ c, tail.head? = some c → isName (c.toNat : Int) = false) : ∀ c, (bs.flatMap pcA ++ tail).head? = some c → isName (c.toNat : Int) = false := by
  cases bs with
  | nil => simpa using ht
  | cons p bs =>
    obtain ⟨b, n, v⟩ := p
    intro c hc
    cases b <;> (simp [pcA] at hc; subst hc; decide)
theorem first_60 {n : List UInt8} (hn : isN n) (R : List UInt8) : noteF.isPrefixOf (60 :: (n ++ R)) = false ∧ cdF.isPrefixOf (60 :: (n ++ R)) = false ∧ headM true (60 :: (n ++ R)) = false ∧ (n ++ R).head? ≠ some 47 := by
  obtain ⟨c, r, rfl, hf, _⟩ := isN_first hn
  have h33 : c ≠ 33 := by rintro rfl; simp [isFirst] at hf
  have h63 : c ≠ 63 := by rintro rfl; simp [isFirst] at hf
  have h47 := (first_not hf).2.1
  refine ⟨?_, ?_, ?_, ?_⟩
  · simp [noteF, List.isPrefixOf, h33.symm]
  · simp [cdF, List.isPrefixOf, h33.symm]
  · simp [headM, headF, List.isPrefixOf, h63.symm]
  · simpa using h47
theorem all_tag {n : List UInt8} {bs : List (Bool × At2)} (hn : isN n) (hok : ∀ p ∈ bs, okA p.2) (hnd : (bs.map (fun p => p.2.1)).Nodup) (hlen : (tagT n bs).length + 2 ≤ 65536) :
    allM (tagT n bs ++ [32, 62]) = .ok [⟨1, n, bs.map (·.2), [], 0⟩] [] ∧ allM (tagT n bs ++ [47, 62]) = .ok [⟨2, n, bs.map (·.2), [], 0⟩] [] := by
  have key : ∀ (tail : List UInt8) (k : Int), (tail = [32, 62] ∧ k = 1) ∨ (tail = [47, 62] ∧ k = 2) → allM (tagT n bs ++ tail) = .ok [⟨k, n, bs.map (·.2), [], 0⟩] [] := by
    intro tail k htk
    have hth : ∀ c, tail.head? = some c → isName (c.toNat : Int) = false := by
      rcases htk with ⟨rfl, _⟩ | ⟨rfl, _⟩ <;> (intro c hc; simp at hc; subst hc; decide)
    have htl : tail.length = 2 := by rcases htk with ⟨rfl, _⟩ | ⟨rfl, _⟩ <;> rfl
    refine all_one (by simp [tagT]) (by rw [List.length_append, htl]; exact hlen) ?_
    obtain ⟨f1, f2, f3, f4⟩ := first_60 hn (bs.flatMap pcA ++ tail)
    have e0 : tagT n bs ++ tail = 60 :: (n ++ (bs.flatMap pcA ++ tail)) := by simp [tagT]
    rw [e0, pieceM, if_neg (by decide), if_neg (by rw [f1]; decide), if_neg (by rw [f2]; decide), if_neg (by rw [show ((0 : Nat) == 0) = true from rfl, f3]; decide), if_neg f4, openM, nameM_app hn (head_pc hth)]
    show (((attrsM ((bs.flatMap pcA ++ tail).length + 1) [] (bs.flatMap pcA ++ tail)).bind _).bind _ : Rs Tk) = _
    have hbl : bs.length ≤ (bs.flatMap pcA).length := by
      have : ∀ bs : List (Bool × At2), bs.length ≤ (bs.flatMap pcA).length := by
        intro bs
        induction bs with
        | nil => simp
        | cons p bs ih =>
          obtain ⟨b, n, v⟩ := p
          cases b <;> (simp only [List.flatMap_cons, List.length_append, List.length_cons, pcA] at ih ⊢; omega)
      exact this bs
    rw [attrs_read bs _ [] (by rw [List.length_append]; omega) hok (by simp) hnd, List.nil_append]
    obtain ⟨g, hg⟩ : ∃ g, (bs.flatMap pcA ++ tail).length + 1 - bs.length = g + 1 := ⟨(bs.flatMap pcA ++ tail).length - bs.length, by rw [List.length_append]; omega⟩
    rw [hg]
    rcases htk with ⟨rfl, rfl⟩ | ⟨rfl, rfl⟩
    · have : attrsM (g + 1) (bs.map (·.2)) [32, 62] = .ok (bs.map (·.2)) [62] := by
        rw [attrsM, if_neg (by decide)]
        rfl
      rw [this]
      rfl
    · have : attrsM (g + 1) (bs.map (·.2)) [47, 62] = .ok (bs.map (·.2)) [47, 62] := by
        rw [attrsM, if_pos (by decide)]
      rw [this]
      rfl
  exact ⟨key _ 1 (.inl ⟨rfl, rfl⟩), key _ 2 (.inr ⟨rfl, rfl⟩)⟩
end
/-! Stay2 -/
section
/-- an error in a tag, a value or a text -/
def E3 (e : Int) : Prop := e = 10 ∨ e = 11 ∨ e = 15
/-! such an error isn't at the end -/
def NE {α : Type} (x : Rs α) : Prop := ∀ e r, x = .bad e r → E3 e → r ≠ []
theorem nf_ok {α : Type} {a : α} {r : List UInt8} : NE (.ok a r) := fun e r' h => by simp at h
theorem nf_no {α : Type} {c : Int} {r : List UInt8} (hc : ¬ E3 c) : NE (.bad c r : Rs α) := fun e r' h he => by cases h; exact absurd he hc
theorem nf_yes {α : Type} {c : Int} {r : List UInt8} (hr : r ≠ []) : NE (.bad c r : Rs α) := fun e r' h he => by cases h; exact hr
theorem nf_13 {α : Type} {r : List UInt8} : NE (.bad 13 r : Rs α) := nf_no (by unfold E3; decide)
theorem nf_bind {α β : Type} {x : Rs α} {f : α → List UInt8 → Rs β} (h : NE x) (hf : ∀ a r, NE (f a r)) : NE (x.bind f) := by
  cases x with
  | ok a r => exact hf a r
  | bad e r => intro e' r' h' he; cases h'; exact h e r rfl he
theorem nf_must (c : UInt8) (r : List UInt8) : NE (mustM c r) := by
  unfold mustM
  split
  · exact nf_13
  · split
    · exact nf_ok
    · exact nf_yes (by simp)
theorem nf_bet (b : List UInt8) : ∀ (r acc : List UInt8), NE (betM b acc r)
  | [], acc => by unfold betM; split; exact nf_ok; exact nf_13
  | c :: r, acc => by
    unfold betM
    split
    · exact nf_ok
    · split
      · exact nf_bet b r _
      · exact nf_yes (by simp)
theorem errno_E3 {l : List UInt8} {x : ByteArray} {n y : Nat} (h : refS l = (x, n, y)) : ¬ E3 (errno y) := by
  rcases refS_bad h with h | h | h <;> subst h <;> (unfold E3; decide)
theorem nf_let (stop : UInt8) (opn : Bool) : ∀ (f : Nat) (acc r : List UInt8), NE (letM stop opn f acc r)
  | 0, acc, r => by unfold letM; exact nf_ok
  | f + 1, acc, [] => by unfold letM; split; exact nf_ok; exact nf_13
  | f + 1, acc, c :: r => by
    by_cases hc : c = stop
    · rw [letM, if_pos hc]; exact nf_ok
    · by_cases h38 : c = 38
      · obtain ⟨⟨x, n, y⟩, hxy⟩ : ∃ z, refS (c :: r) = z := ⟨_, rfl⟩
        rw [let_ref hc h38 hxy]
        split
        · exact nf_let stop opn f _ _
        · exact nf_no (errno_E3 hxy)
      · rw [letM, if_neg hc, if_neg h38]
        split
        · exact nf_yes (by simp)
        · exact nf_let stop opn f _ _
theorem nf_name {e : Int} (r : List UInt8) : NE (nameM e r) := by
  unfold nameM
  split
  · exact nf_13
  · next h =>
    split
    · exact nf_yes h
    · exact nf_ok
theorem name_ne {e : Int} {r n r1 : List UInt8} (h : nameM e r = .ok n r1) : r ≠ [] := by
  rintro rfl
  rw [nameM, if_pos rfl] at h
  simp at h
theorem nf_attr (ats : List At2) (r : List UInt8) : NE (attrM ats r) := by
  unfold attrM
  cases hN : nameM 10 r with
  | bad e s => intro e' r' h he; cases h; exact nf_name r _ _ hN he
  | ok n r1 =>
    show NE (ite _ _ _ : Rs At2)
    split
    · exact nf_yes (name_ne hN)
    · refine nf_bind (nf_must _ _) fun _ r2 => ?_
      split
      · exact nf_13
      · split
        · exact nf_bind (nf_let _ _ _ _ _) fun _ _ => nf_ok
        · exact nf_yes (by simp)
theorem nf_attrs : ∀ (f : Nat) (ats : List At2) (r : List UInt8), NE (attrsM f ats r)
  | 0, ats, r => by rw [attrsM]; exact nf_ok
  | f + 1, ats, r => by
    rw [attrsM]
    split
    · exact nf_ok
    · split
      · exact nf_13
      · split
        · exact nf_ok
        · exact nf_bind (nf_attr _ _) fun a r2 => nf_attrs f _ _
theorem nf_open (r : List UInt8) : NE (openM r) := by
  rw [openM_eq]
  refine nf_bind (nf_name r) fun n r1 => nf_bind (nf_attrs _ _ _) fun ats r2 => ?_
  unfold endM
  split
  · exact nf_13
  · split <;> exact nf_bind (nf_must _ _) fun _ _ => nf_ok
theorem nf_piece (o : Nat) (r : List UInt8) : NE (pieceM o r) := by
  unfold pieceM
  split
  · exact nf_13
  · split
    · exact nf_bind (nf_let _ _ _ _ _) fun _ _ => nf_ok
    · split
      · exact nf_bind (nf_bet _ _ _) fun _ _ => nf_ok
      · split
        · exact nf_bind (nf_bet _ _ _) fun _ _ => nf_ok
        · split
          · exact nf_bind (nf_bet _ _ _) fun _ _ => nf_ok
          · split
            · refine nf_bind ?_ fun _ _ => nf_ok
              unfold closeM
              exact nf_bind (nf_name _) fun _ _ => nf_bind (nf_must _ _) fun _ _ => nf_ok
            · exact nf_bind (nf_open _) fun _ _ => nf_ok
theorem nf_go (l : List UInt8) : ∀ (f : Nat) (acc : List Tk) (r : List UInt8), NE (goM l f acc r)
  | 0, acc, r => by rw [goM]; exact nf_ok
  | f + 1, acc, r => by
    rw [goM]
    split
    · exact nf_ok
    · exact nf_bind (nf_piece _ _) fun t r1 => nf_go l f _ _
theorem nf_all {l : List UInt8} {e : Int} {r : List UInt8} (h : allM l = .bad e r) (he : E3 e) : r ≠ [] := by
  have : NE (allM l) := by
    unfold allM
    split
    · exact nf_no (by unfold E3; decide)
    · exact nf_go _ _ _ _
  exact this e r h he
/-! what is left is an end of what was there -/
theorem attr_left (ats : List At2) (r : List UInt8) : (attrM ats r).left <:+ r := by
  unfold attrM
  have h1 := name_left 10 r
  cases hN : nameM 10 r with
  | bad e s => rw [hN] at h1; exact h1
  | ok n r1 =>
    rw [hN] at h1
    show (ite _ _ _ : Rs At2).left <:+ r
    split
    · exact List.suffix_refl _
    · refine (bind_left (must_left 61 _) fun _ r2 _ => ?_).trans ((blanks_left r1).trans h1)
      have hb := blanks_left r2
      split
      · exact List.nil_suffix
      · next q r3 heq =>
        rw [heq] at hb
        split
        · exact (bind_left (let_left _ _ _ _ _) fun v r4 _ => show (Rs.ok (n, v) (r4.drop 1) : Rs At2).left <:+ r4 from List.drop_suffix 1 r4).trans ((List.suffix_cons q r3).trans hb)
        · exact hb
theorem attrs_left : ∀ (f : Nat) (ats : List At2) (r : List UInt8), (attrsM f ats r).left <:+ r
  | 0, ats, r => by rw [attrsM]; exact List.suffix_refl _
  | f + 1, ats, r => by
    rw [attrsM]
    have hb := blanks_left r
    split
    · exact List.suffix_refl _
    · split
      · exact List.nil_suffix
      · next c r1 heq =>
        rw [heq] at hb
        split
        · exact hb
        · exact (bind_left (attr_left _ _) fun _ _ _ => attrs_left f _ _).trans hb
theorem end_left (n : List UInt8) (ats : List At2) (r : List UInt8) : (endM n ats r).left <:+ r := by
  unfold endM
  split
  · exact List.suffix_refl _
  · next c r3 =>
    split
    · exact (bind_left (must_left 62 _) fun _ _ _ => List.suffix_refl _).trans (List.suffix_cons c r3)
    · exact bind_left (must_left 62 _) fun _ _ _ => List.suffix_refl _
theorem open_left (r : List UInt8) : (openM r).left <:+ r := by
  rw [openM_eq]
  exact bind_left (name_left 11 r) fun n r1 _ => bind_left (attrs_left _ _ _) fun ats r2 _ => end_left _ _ _
theorem close_left (r : List UInt8) : (closeM r).left <:+ r := by
  unfold closeM
  exact bind_left (name_left 11 r) fun n r1 _ => (bind_left (must_left 62 _) fun _ _ _ => List.suffix_refl _).trans (blanks_left r1)
theorem piece_left (o : Nat) (r : List UInt8) : (pieceM o r).left <:+ r := by
  unfold pieceM
  split
  · exact List.suffix_refl _
  · next c r1 =>
    split
    · exact bind_left (let_left _ _ _ _ _) fun _ _ _ => List.suffix_refl _
    · split
      · exact (bind_left (bet_left _ _ _) fun _ _ _ => List.suffix_refl _).trans (List.drop_suffix _ _)
      · split
        · exact (bind_left (bet_left _ _ _) fun _ _ _ => List.suffix_refl _).trans (List.drop_suffix _ _)
        · split
          · exact (bind_left (bet_left _ _ _) fun _ _ _ => List.suffix_refl _).trans (List.drop_suffix _ _)
          · split
            · exact (bind_left (close_left _) fun _ _ _ => List.suffix_refl _).trans (List.drop_suffix _ _)
            · exact (bind_left (open_left _) fun _ _ _ => List.suffix_refl _).trans (List.suffix_cons c r1)
theorem go_left (l : List UInt8) : ∀ (f : Nat) (acc : List Tk) (r : List UInt8), (goM l f acc r).left <:+ r
  | 0, acc, r => by rw [goM]; exact List.suffix_refl _
  | f + 1, acc, r => by
    rw [goM]
    split
    · next h => rw [h]; exact List.suffix_refl _
    · exact bind_left (piece_left _ _) fun t r1 _ => go_left l f _ _
/-! references are of their own bytes alone -/
theorem get_take {l l' : List UInt8} {n i : Nat} (h : l'.take n = l.take n) (hi : i < n) : l'[i]? = l[i]? := by
  have := congrArg (fun z => z[i]?) h
  simpa [List.getElem?_take, hi] using this
theorem pre_take {p l l' : List UInt8} {n : Nat} (h : l'.take n = l.take n) (hp : p.length ≤ n) : p.isPrefixOf l' = p.isPrefixOf l := by
  rw [Bool.eq_iff_iff, List.isPrefixOf_iff_prefix, List.isPrefixOf_iff_prefix, List.prefix_iff_eq_take, List.prefix_iff_eq_take]
  have : l'.take p.length = l.take p.length := by
    have := congrArg (fun z => z.take p.length) h
    simpa [List.take_take, Nat.min_eq_left hp] using this
  rw [this]
theorem num_local {b : Int} {l l' : List UInt8} {f n : Nat} {x : ByteArray} (h : numS b l f = (x, n, 0)) (hf : f ≤ l.length) (ht : l'.take n = l.take n) : numS b l' f = (x, n, 0) := by
  unfold numS finS at h
  generalize hj : min (digs b (l.drop f)).length 8 = j at h
  split at h
  · simp at h
  · next h1 =>
    split at h
    · simp at h
    · next h2 =>
      split at h
      · next h3 =>
        simp only [Prod.mk.injEq, and_true] at h
        obtain ⟨hx, hn⟩ := h
        have h59 : l[f + j]? = some 59 := by
          cases hq : l[f + j]? with
          | none => exact absurd (.inr (by rw [hq]; simp)) h2
          | some c =>
            by_cases hc : c = 59
            · rw [hc]
            · exact absurd (.inr (by rw [hq]; simpa using hc)) h2
        have hj0 : 0 < j := by
          rcases Nat.eq_zero_or_pos j with h | h
          · exact absurd (.inl h) h2
          · exact h
        have hall : AllDig b l f (f + j) := by
          intro i c h4 h5 h6
          have h7 : (l.drop f)[i - f]? = some c := by rw [List.getElem?_drop, show f + (i - f) = i by omega]; exact h6
          exact tw_all (fun c => (dval b c).isSome) (l.drop f) (i - f) c (by have : j ≤ (digs b (l.drop f)).length := by omega
                                                                             unfold digs at this; omega) h7
        have hall' : AllDig b l' f (f + j) := fun i c h4 h5 h6 => hall i c h4 h5 (by rw [← get_take ht (i := i) (by omega)]; exact h6)
        have h59' : l'[f + j]? = some 59 := by rw [get_take ht (by omega)]; exact h59
        have hdt : (l'.drop f).take j = (l.drop f).take j := by
          have e1 := congrArg (fun z => (z.drop f).take j) ht
          simp only [List.drop_take, List.take_take] at e1
          rwa [Nat.min_eq_left (by omega)] at e1
        have hl' := (List.getElem?_eq_some_iff.1 h59').1
        have := num_fin (b := b) (l := l') (f := f) (k := f + j) (by omega) (by omega) hall' (by omega) (.inr (.inr ⟨59, h59', dval_59⟩))
        rw [this, fin_some (by omega) h59' (by rw [show f + j - f = j by omega, hdt]; exact h3), show f + j - f = j by omega, hdt, ← hx, ← hn]
      · simp at h
theorem refS_local {l l' : List UInt8} {n : Nat} {x : ByteArray} (h : refS l = (x, n, 0)) (ht : l'.take n = l.take n) : refS l' = (x, n, 0) := by
  have h0 := h
  unfold refS at h
  split at h
  · next h1 =>
    have hn : 3 ≤ n := by
      unfold numS finS at h
      split at h
      · simp at h
      · split at h
        · simp at h
        · split at h
          · simp only [Prod.mk.injEq, and_true] at h; omega
          · simp at h
    unfold refS
    rw [if_pos (by rw [pre_take ht (by simpa using hn)]; exact h1)]
    exact num_local h (List.isPrefixOf_iff_prefix.1 h1).length_le ht
  · next h1 =>
    split at h
    · next h2 =>
      have hn : 4 ≤ n := by
        unfold numS finS at h
        split at h
        · simp at h
        · split at h
          · simp at h
          · next h9 =>
            split at h
            · simp only [Prod.mk.injEq, and_true] at h
              have : min (digs 10 (l.drop 2)).length 8 ≠ 0 := fun e => h9 (.inl e)
              omega
            · simp at h
      unfold refS
      rw [if_neg (by rw [pre_take ht (by simp; omega)]; exact h1), if_pos (by rw [pre_take ht (by simp; omega)]; exact h2)]
      exact num_local h (List.isPrefixOf_iff_prefix.1 h2).length_le ht
    · split at h
      · next w hw =>
        simp only [Prod.mk.injEq, and_true] at h
        obtain ⟨hx, hn⟩ := h
        have h3 := List.find?_some hw
        have h4 := List.mem_of_find?_eq_some hw
        have h5 : w.1.isPrefixOf l' = true := by rw [pre_take ht (by omega)]; exact h3
        rw [← hx, ← hn]
        simp only [words, List.mem_cons, List.not_mem_nil, or_false] at h4
        rcases h4 with rfl | rfl | rfl | rfl | rfl
        · exact refS_word0 h5
        · exact refS_word1 h5
        · exact refS_word2 h5
        · exact refS_word3 h5
        · exact refS_word4 h5
      · split at h <;> simp at h
end
/-! Stay2b -/
section
/-- the same ahead of the place of the error -/
def P2 (c : UInt8) (x y r r' : List UInt8) : Prop := ∃ p, r = p ++ c :: x ∧ r' = p ++ c :: y
/-- it goes the same way, up to there -/
def St {α : Type} (c : UInt8) (x y : List UInt8) (M M' : Rs α) : Prop :=
  (∀ a s, M = .ok a s → c :: x <:+ s → ∃ s', M' = .ok a s' ∧ P2 c x y s s') ∧ ∀ e, E3 e → M = .bad e (c :: x) → M' = .bad e (c :: y)
section
variable {α β : Type} {c : UInt8} {x y r r' : List UInt8} {M M' : Rs α}
theorem no_suf : ¬ (c :: x <:+ x) := fun h => by have := h.length_le; simp only [List.length_cons] at this; omega
theorem no_suf2 {z : List UInt8} (h : z <:+ x) : ¬ (c :: x <:+ z) := fun h2 => no_suf (h2.trans h)
theorem St.vac {z : List UInt8} (hl : M.left <:+ z) (hz : ¬ (c :: x <:+ z)) : St c x y M M' := by
  refine ⟨fun a s h hs => ?_, fun e _ h => ?_⟩
  · rw [h] at hl; exact absurd (hs.trans hl) hz
  · rw [h] at hl; exact absurd hl hz
theorem St.no {e : Int} {z : List UInt8} (he : ¬ E3 e) : St c x y (.bad e z) M' := ⟨fun a s h => by simp at h, fun e' he' h => by cases h; exact absurd he' he⟩
theorem St.ok {a : α} (h : P2 c x y r r') : St c x y (.ok a r) (.ok a r') := ⟨fun b s hb _ => by cases hb; exact ⟨r', rfl, h⟩, fun e _ h => by simp at h⟩
theorem St.bad {e : Int} : St c x y (.bad e (c :: x) : Rs α) (.bad e (c :: y)) := ⟨fun b s hb => by simp at hb, fun e' _ h => by cases h; rfl⟩
theorem St.other {e : Int} {z : List UInt8} (h : z ≠ c :: x) : St c x y (.bad e z) M' := ⟨fun b s hb => by simp at hb, fun e' _ he => by cases he; exact absurd rfl h⟩
theorem St.bind {f f' : α → List UInt8 → Rs β} (h : St c x y M M') (hf : ∀ a s s', M = .ok a s → P2 c x y s s' → St c x y (f a s) (f' a s')) (hl : ∀ a s, (f a s).left <:+ s) : St c x y (M.bind f) (M'.bind f') := by
  cases hM : M with
  | bad e z =>
    refine ⟨fun a s hb => by simp [Rs.bind] at hb, fun e' he' hb => ?_⟩
    have hb2 : (Rs.bad e z : Rs β) = .bad e' (c :: x) := hb
    cases hb2
    rw [h.2 e he' hM]; rfl
  | ok a s =>
    have hfl := hl a s
    refine ⟨fun b t hb ht => ?_, fun e he hb => ?_⟩
    · have hb2 : f a s = .ok b t := hb
      rw [hb2] at hfl
      obtain ⟨s', h1, h2⟩ := h.1 a s hM (ht.trans hfl)
      obtain ⟨t', h3, h4⟩ := (hf a s s' hM h2).1 b t hb2 ht
      exact ⟨t', by rw [h1]; exact h3, h4⟩
    · have hb2 : f a s = .bad e (c :: x) := hb
      rw [hb2] at hfl
      obtain ⟨s', h1, h2⟩ := h.1 a s hM hfl
      rw [h1]
      exact (hf a s s' hM h2).2 e he hb2
theorem P2.drop {k : Nat} (h : P2 c x y r r') (hs : c :: x <:+ r.drop k) : P2 c x y (r.drop k) (r'.drop k) ∧ r'.take k = r.take k := by
  obtain ⟨p, rfl, rfl⟩ := h
  have hk : k ≤ p.length := by
    have := hs.length_le
    rw [List.length_drop] at this
    simp at this
    omega
  refine ⟨⟨p.drop k, by rw [List.drop_append_of_le_length hk], by rw [List.drop_append_of_le_length hk]⟩, ?_⟩
  rw [List.take_append_of_le_length hk, List.take_append_of_le_length hk]
theorem st_must (d : UInt8) (h : P2 c x y r r') : St c x y (mustM d r) (mustM d r') := by
  obtain ⟨p, rfl, rfl⟩ := h
  cases p with
  | nil =>
    show St c x y (mustM d (c :: x)) (mustM d (c :: y))
    by_cases hd : c = d
    · rw [mustM, if_pos hd]
      exact St.vac (List.suffix_refl _) no_suf
    · rw [mustM, if_neg hd, mustM, if_neg hd]
      exact St.bad
  | cons e p =>
    show St c x y (mustM d (e :: (p ++ c :: x))) (mustM d (e :: (p ++ c :: y)))
    by_cases hd : e = d
    · rw [mustM, if_pos hd, mustM, if_pos hd]
      exact St.ok ⟨p, rfl, rfl⟩
    · rw [mustM, if_neg hd]
      exact St.other (fun he => by have := congrArg List.length he; simp at this; omega)
theorem st_blanks : ∀ (p : List UInt8), c :: x <:+ blanksM (p ++ c :: x) → P2 c x y (blanksM (p ++ c :: x)) (blanksM (p ++ c :: y))
  | [], h => by
    by_cases hb : bl c = true
    · have h2 : c :: x <:+ blanksM (c :: x) := h
      rw [blanks_yes hb] at h2
      exact absurd (h2.trans (blanks_left x)) no_suf
    · have hb := Bool.eq_false_iff.2 hb
      show P2 c x y (blanksM (c :: x)) (blanksM (c :: y))
      rw [blanks_no hb, blanks_no hb]
      exact ⟨[], rfl, rfl⟩
  | d :: p, h => by
    by_cases hb : bl d = true
    · have h2 : c :: x <:+ blanksM (d :: (p ++ c :: x)) := h
      show P2 c x y (blanksM (d :: (p ++ c :: x))) (blanksM (d :: (p ++ c :: y)))
      rw [blanks_yes hb] at h2 ⊢
      rw [blanks_yes hb]
      exact st_blanks p h2
    · have hb := Bool.eq_false_iff.2 hb
      show P2 c x y (blanksM (d :: (p ++ c :: x))) (blanksM (d :: (p ++ c :: y)))
      rw [blanks_no hb, blanks_no hb]
      exact ⟨d :: p, rfl, rfl⟩
theorem name_of {k : Nat} {l : List UInt8} (h0 : 1 ≤ k) (h1 : k < l.length) (hf : ∀ a, l[0]? = some a → isFirst (a.toNat : Int) = true) (hn : ∀ i a, 1 ≤ i → i < k → l[i]? = some a → isName (a.toNat : Int) = true) (hs : ∀ a, l[k]? = some a → isName (a.toNat : Int) = false) : nameL l = k := by
  refine name_one (nameL_is l) (.inr ⟨h0, by rw [size_str]; omega, ?_, fun i h2 h3 => ?_, .inr ?_⟩)
  · obtain ⟨a, ha⟩ : ∃ a, l[0]? = some a := ⟨_, List.getElem?_eq_getElem (by omega)⟩
    rw [bt_str ha]; exact hf a ha
  · obtain ⟨a, ha⟩ : ∃ a, l[i]? = some a := ⟨_, List.getElem?_eq_getElem (by omega)⟩
    rw [bt_str ha]; exact hn i a h2 h3 ha
  · obtain ⟨a, ha⟩ : ∃ a, l[k]? = some a := ⟨_, List.getElem?_eq_getElem h1⟩
    rw [bt_str ha]; exact hs a ha
theorem name_is {k : Nat} {l : List UInt8} (h : nameL l = k) (h0 : 1 ≤ k) : (∀ a, l[0]? = some a → isFirst (a.toNat : Int) = true) ∧ (∀ i a, 1 ≤ i → i < k → l[i]? = some a → isName (a.toNat : Int) = true) ∧ (∀ a, l[k]? = some a → isName (a.toNat : Int) = false) := by
  have hi := nameL_is l
  rw [h] at hi
  rcases hi with ⟨h1, _⟩ | ⟨_, h2, h3, h4, h5⟩
  · omega
  · refine ⟨fun a ha => ?_, fun i a hi1 hi2 ha => ?_, fun a ha => ?_⟩
    · rw [bt_str ha] at h3; exact h3
    · have := h4 i hi1 hi2; rw [bt_str ha] at this; exact this
    · rcases h5 with h5 | h5
      · rw [size_str] at h5
        have := (List.getElem?_eq_some_iff.1 ha).1
        omega
      · rw [bt_str ha] at h5; exact h5
theorem nameL_0 {d : UInt8} {z : List UInt8} : nameL (d :: z) = 0 ↔ isFirst (d.toNat : Int) = false := by
  rw [nameL]
  by_cases h : isFirst (d.toNat : Int) = true
  · rw [if_pos h]; simp [h]
  · rw [if_neg h]; simp [Bool.eq_false_iff.2 h]
theorem st_name (e0 : Int) (h : P2 c x y r r') : St c x y (nameM e0 r) (nameM e0 r') := by
  obtain ⟨p, rfl, rfl⟩ := h
  rw [nameM, if_neg (by simp)]
  by_cases h0 : nameL (p ++ c :: x) = 0
  · rw [if_pos h0]
    cases p with
    | nil =>
      have h1 : nameL (c :: y) = 0 := nameL_0.2 (nameL_0.1 h0)
      show St c x y _ (nameM e0 (c :: y))
      rw [nameM, if_neg (by simp), if_pos h1]
      exact St.bad
    | cons d p => exact St.other (fun he => by have := congrArg List.length he; simp at this; omega)
  · rw [if_neg h0]
    refine ⟨fun a s h1 hs => ?_, fun e _ h1 => by simp at h1⟩
    simp only [Rs.ok.injEq] at h1
    obtain ⟨rfl, rfl⟩ := h1
    obtain ⟨hd, ht⟩ := P2.drop (y := y) ⟨p, rfl, rfl⟩ hs
    have hk : nameL (p ++ c :: x) ≤ p.length := by
      have := hs.length_le
      rw [List.length_drop] at this
      simp at this
      omega
    obtain ⟨i1, i2, i3⟩ := name_is rfl (show 1 ≤ nameL (p ++ c :: x) by omega)
    have gt : ∀ i, i ≤ p.length → (p ++ c :: y)[i]? = (p ++ c :: x)[i]? := by
      intro i hi
      rcases Nat.lt_or_ge i p.length with h | h
      · rw [List.getElem?_append_left h, List.getElem?_append_left h]
      · have : i = p.length := by omega
        subst this
        simp
    have hL : nameL (p ++ c :: y) = nameL (p ++ c :: x) := name_of (by omega) (by simp; omega) (fun a ha => i1 a (by rw [← gt 0 (by omega)]; exact ha)) (fun i a h2 h3 ha => i2 i a h2 h3 (by rw [← gt i (by omega)]; exact ha)) (fun a ha => i3 a (by rw [← gt _ hk]; exact ha))
    refine ⟨_, ?_, hd⟩
    rw [nameM, if_neg (by simp), hL, if_neg h0, ht]
theorem st_let (stop : UInt8) (opn : Bool) : ∀ (f : Nat) (acc p : List UInt8) (f' : Nat), (p ++ c :: x).length < f → (p ++ c :: y).length < f' → St c x y (letM stop opn f acc (p ++ c :: x)) (letM stop opn f' acc (p ++ c :: y))
  | 0, acc, p, f', h, _ => by omega
  | f + 1, acc, p, 0, _, h => by omega
  | f + 1, acc, [], f' + 1, h, h' => by
    show St c x y (letM stop opn (f + 1) acc (c :: x)) (letM stop opn (f' + 1) acc (c :: y))
    by_cases hs : c = stop
    · rw [letM, if_pos hs, letM, if_pos hs]
      exact St.ok ⟨[], rfl, rfl⟩
    · by_cases h38 : c = 38
      · obtain ⟨⟨w, n, z⟩, hxy⟩ : ∃ z, refS (c :: x) = z := ⟨_, rfl⟩
        rw [let_ref hs h38 hxy]
        by_cases hz : z = 0
        · rw [if_pos hz]
          subst hz
          have h1 := (refS_small hxy).2.1
          obtain ⟨m, rfl⟩ : ∃ m, n = m + 1 := ⟨n - 1, by omega⟩
          exact St.vac (z := x) ((let_left _ _ _ _ _).trans (List.drop_suffix m x)) no_suf
        · rw [if_neg hz]
          exact St.no (errno_E3 hxy)
      · rw [letM, if_neg hs, if_neg h38, letM, if_neg hs, if_neg h38]
        by_cases h60 : (decide (c = 60) || !(tx c)) = true
        · rw [if_pos h60, if_pos h60]
          exact St.bad
        · rw [if_neg h60]
          exact St.vac (z := x) (let_left _ _ _ _ _) no_suf
  | f + 1, acc, d :: p, f' + 1, h, h' => by
    show St c x y (letM stop opn (f + 1) acc (d :: (p ++ c :: x))) (letM stop opn (f' + 1) acc (d :: (p ++ c :: y)))
    by_cases hs : d = stop
    · rw [letM, if_pos hs, letM, if_pos hs]
      exact St.ok ⟨d :: p, rfl, rfl⟩
    · by_cases h38 : d = 38
      · obtain ⟨⟨w, n, z⟩, hxy⟩ : ∃ z, refS (d :: (p ++ c :: x)) = z := ⟨_, rfl⟩
        rw [let_ref hs h38 hxy]
        by_cases hz : z = 0
        · rw [if_pos hz]
          subst hz
          have hsm := refS_small hxy
          by_cases hin : c :: x <:+ (d :: (p ++ c :: x)).drop n
          · obtain ⟨⟨q, hq, hq'⟩, ht⟩ := P2.drop (y := y) (r := d :: (p ++ c :: x)) (r' := d :: (p ++ c :: y)) ⟨d :: p, rfl, rfl⟩ hin
            rw [let_ref hs h38 (refS_local hxy ht), if_pos rfl, hq, hq']
            have e1 := congrArg List.length hq
            have e2 := congrArg List.length hq'
            simp only [List.length_drop, List.length_cons, List.length_append] at e1 e2 h h'
            exact st_let stop opn f _ q f' (by simp only [List.length_append, List.length_cons]; omega) (by simp only [List.length_append, List.length_cons]; omega)
          · exact St.vac (let_left _ _ _ _ _) hin
        · rw [if_neg hz]
          exact St.no (errno_E3 hxy)
      · rw [letM, if_neg hs, if_neg h38, letM, if_neg hs, if_neg h38]
        by_cases h60 : (decide (d = 60) || !(tx d)) = true
        · rw [if_pos h60, if_pos h60]
          exact St.other (fun he => by have := congrArg List.length he; simp at this; omega)
        · rw [if_neg h60, if_neg h60]
          exact st_let stop opn f _ p f' (by simpa using h) (by simpa using h')
theorem bet_len (back : List UInt8) : ∀ (r acc : List UInt8) {v s : List UInt8}, betM back acc r = .ok v s → s.length + back.length ≤ r.length
  | [], acc, v, s, h => by
    unfold betM at h
    split at h
    · next hp => cases h; have := (List.isPrefixOf_iff_prefix.1 hp).length_le; simpa using this
    · simp at h
  | d :: r, acc, v, s, h => by
    unfold betM at h
    split at h
    · next hp =>
      cases h
      have := (List.isPrefixOf_iff_prefix.1 hp).length_le
      rw [List.length_drop]; omega
    · split at h
      · have := bet_len back r _ h
        simp only [List.length_cons]; omega
      · simp at h
theorem bet_bad (back : List UInt8) : ∀ (r acc : List UInt8) {e : Int} {d : UInt8} {z : List UInt8}, betM back acc r = .bad e (d :: z) → tx d = false
  | [], acc, e, d, z, h => by
    unfold betM at h
    split at h <;> simp at h
  | a :: r, acc, e, d, z, h => by
    unfold betM at h
    split at h
    · simp at h
    · split at h
      · exact bet_bad back r _ h
      · next ht =>
        simp only [Rs.bad.injEq, List.cons.injEq] at h
        rw [← h.2.1]
        exact Bool.eq_false_iff.2 ht
theorem pre_same {back p : List UInt8} (hb : ∀ d ∈ back, tx d = true) (h : tx c = false ∨ back.length ≤ p.length) : back.isPrefixOf (p ++ c :: y) = back.isPrefixOf (p ++ c :: x) := by
  rcases Nat.lt_or_ge p.length back.length with hl | hl
  · have hc : tx c = false := by rcases h with h | h; exact h; omega
    have no : ∀ z, back.isPrefixOf (p ++ c :: z) = false := by
      intro z
      rw [Bool.eq_false_iff]
      intro hp
      have hpre := List.isPrefixOf_iff_prefix.1 hp
      have hg : back[p.length]? = (p ++ c :: z)[p.length]? := by
        obtain ⟨t, ht⟩ := hpre
        rw [← ht, List.getElem?_append_left hl]
      simp at hg
      have := hb c (List.mem_of_getElem? hg)
      rw [hc] at this
      simp at this
    rw [no, no]
  · exact pre_take (n := back.length) (by rw [List.take_append_of_le_length hl, List.take_append_of_le_length hl]) (Nat.le_refl _)
theorem bet_step {back acc r : List UInt8} {d : UInt8} (h : ¬ back.isPrefixOf (d :: r) = true) : betM back acc (d :: r) = if tx d = true then betM back (acc ++ [d]) r else .bad 10 (d :: r) := by rw [betM, if_neg h]
theorem st_bet0 (back : List UInt8) (hb : ∀ d ∈ back, tx d = true) (h0 : back ≠ []) : ∀ (p acc : List UInt8), (tx c = false ∨ back.length ≤ p.length) → St c x y (betM back acc (p ++ c :: x)) (betM back acc (p ++ c :: y))
  | [], acc, hor => by
    have hs := pre_same (x := x) (y := y) (p := []) hb hor
    show St c x y (betM back acc (c :: x)) (betM back acc (c :: y))
    have hc : tx c = false := by
      rcases hor with h | h
      · exact h
      · exact absurd (List.eq_nil_of_length_eq_zero (by simpa using h)) h0
    have hno : back.isPrefixOf (c :: x) = false := by
      rw [Bool.eq_false_iff]
      intro hp
      cases back with
      | nil => exact h0 rfl
      | cons d back =>
        have h2 : d = c := by simp [List.isPrefixOf] at hp; exact hp.1
        have := hb d List.mem_cons_self
        rw [h2, hc] at this; simp at this
    have hs2 : back.isPrefixOf (c :: y) = back.isPrefixOf (c :: x) := hs
    rw [betM, if_neg (by rw [hno]; decide), if_neg (by rw [hc]; decide), betM, if_neg (by rw [hs2, hno]; decide), if_neg (by rw [hc]; decide)]
    exact St.bad
  | d :: p, acc, hor => by
    have hs : back.isPrefixOf (d :: (p ++ c :: y)) = back.isPrefixOf (d :: (p ++ c :: x)) := pre_same (p := d :: p) hb hor
    show St c x y (betM back acc (d :: (p ++ c :: x))) (betM back acc (d :: (p ++ c :: y)))
    by_cases hp : back.isPrefixOf (d :: (p ++ c :: x)) = true
    · rw [betM, if_pos hp, betM, if_pos (by rw [hs]; exact hp)]
      refine ⟨fun a s h1 h2 => ?_, fun e _ h1 => by simp at h1⟩
      cases h1
      exact ⟨_, rfl, (P2.drop (y := y) (r := d :: (p ++ c :: x)) (r' := d :: (p ++ c :: y)) ⟨d :: p, rfl, rfl⟩ h2).1⟩
    · rw [bet_step hp, bet_step (by rw [hs]; exact hp)]
      by_cases ht : tx d = true
      · rw [if_pos ht, if_pos ht]
        -- what is behind
        refine ⟨fun a s h1 h2 => ?_, fun e he h1 => ?_⟩
        · have hl := bet_len back _ _ h1
          have hl2 := h2.length_le
          simp only [List.length_append, List.length_cons] at hl hl2
          exact (st_bet0 back hb h0 p (acc ++ [d]) (.inr (by omega))).1 a s h1 h2
        · exact (st_bet0 back hb h0 p (acc ++ [d]) (.inl (bet_bad back _ _ h1))).2 e he h1
      · rw [if_neg ht]
        exact St.other (fun he => by have := congrArg List.length he; simp at this; omega)
theorem st_bet (back : List UInt8) (hb : ∀ d ∈ back, tx d = true) (h0 : back ≠ []) (p acc : List UInt8) : St c x y (betM back acc (p ++ c :: x)) (betM back acc (p ++ c :: y)) := by
  refine ⟨fun a s h1 h2 => ?_, fun e he h1 => ?_⟩
  · have hl := bet_len back _ _ h1
    have hl2 := h2.length_le
    simp only [List.length_append, List.length_cons] at hl hl2
    exact (st_bet0 back hb h0 p acc (.inr (by omega))).1 a s h1 h2
  · exact (st_bet0 back hb h0 p acc (.inl (bet_bad back _ _ h1))).2 e he h1
end
end
/-! Stay2c -/
section
theorem allM_left (l : List UInt8) : (allM l).left <:+ l := by
  unfold allM
  split
  · exact List.suffix_refl _
  · exact go_left _ _ _ _
/-- behind an attribute's = -/
def quoteM (n r2 : List UInt8) : Rs At2 :=
  match blanksM r2 with
  | [] => .bad 13 []
  | q :: r3 => if q = 34 || q = 39 then (letM q false (r3.length + 1) [] r3).bind fun v r4 => .ok (n, v) (r4.drop 1) else .bad 10 (q :: r3)
theorem attrM_q (ats : List At2) (r : List UInt8) : attrM ats r = (nameM 10 r).bind fun n r1 => if ats.any (fun a => a.1 == n) then .bad 15 r else (mustM 61 (blanksM r1)).bind fun _ r2 => quoteM n r2 := rfl
theorem quote_left (n r : List UInt8) : (quoteM n r).left <:+ blanksM r := by
  unfold quoteM
  split
  · exact List.nil_suffix
  · next q r3 heq =>
    split
    · exact (bind_left (let_left _ _ _ _ _) fun v r4 _ => show (Rs.ok (n, v) (r4.drop 1) : Rs At2).left <:+ r4 from List.drop_suffix 1 r4).trans (by rw [heq]; exact List.suffix_cons q r3)
    · show q :: r3 <:+ blanksM r
      rw [heq]; exact List.suffix_refl _
section
variable {α β : Type} {c : UInt8} {x y r r' : List UInt8} {M M' : Rs α}
theorem p2_blanks (h : P2 c x y r r') (hs : c :: x <:+ blanksM r) : P2 c x y (blanksM r) (blanksM r') := by
  obtain ⟨p, rfl, rfl⟩ := h
  exact st_blanks p hs
theorem st_quote (n : List UInt8) (h : P2 c x y r r') : St c x y (quoteM n r) (quoteM n r') := by
  by_cases hs : c :: x <:+ blanksM r
  · obtain ⟨p, hp, hp'⟩ := p2_blanks h hs
    unfold quoteM
    rw [hp, hp']
    cases p with
    | nil =>
      show St c x y (ite _ _ _ : Rs At2) (ite _ _ _ : Rs At2)
      by_cases hq : (decide (c = 34) || decide (c = 39)) = true
      · rw [if_pos hq]
        exact St.vac (z := x) (bind_left (let_left _ _ _ _ _) fun v r4 _ => show (Rs.ok (n, v) (r4.drop 1) : Rs At2).left <:+ r4 from List.drop_suffix 1 r4) no_suf
      · rw [if_neg hq, if_neg hq]
        exact St.bad
    | cons q p =>
      show St c x y (ite _ _ _ : Rs At2) (ite _ _ _ : Rs At2)
      by_cases hq : (decide (q = 34) || decide (q = 39)) = true
      · rw [if_pos hq, if_pos hq]
        refine St.bind (st_let q false _ _ p _ (Nat.lt_succ_self _) (Nat.lt_succ_self _)) (fun v s s' hv hss => ?_) (fun v s => List.drop_suffix 1 s)
        obtain ⟨r5, hr5⟩ := let_ok _ hv (Nat.lt_succ_self _)
        by_cases hin : c :: x <:+ s.drop 1
        · exact St.ok (P2.drop hss hin).1
        · exact St.vac (List.suffix_refl _) hin
      · rw [if_neg hq]
        exact St.other (fun he => by have := congrArg List.length he; simp at this; omega)
  · exact St.vac (quote_left n r) hs
/-- its name there is the same -/
def HN (c : UInt8) (x y : List UInt8) : Prop := ∀ n s, nameM 10 (c :: x) = .ok n s → ∃ s', nameM 10 (c :: y) = .ok n s'
theorem st_attr (hn : HN c x y) (ats : List At2) (h : P2 c x y r r') : St c x y (attrM ats r) (attrM ats r') := by
  rw [attrM_q, attrM_q]
  have hst := st_name 10 h
  cases hN : nameM 10 r with
  | bad e z =>
    refine ⟨fun a s hb => by simp [Rs.bind] at hb, fun e' he' hb => ?_⟩
    have hb2 : (Rs.bad e z : Rs At2) = .bad e' (c :: x) := hb
    cases hb2
    rw [hst.2 e he' hN]; rfl
  | ok n s =>
    show St c x y (ite _ _ _ : Rs At2) _
    by_cases hd : ats.any (fun a => a.1 == n) = true
    · rw [if_pos hd]
      refine ⟨fun a t hb => by simp at hb, fun e he hb => ?_⟩
      simp only [Rs.bad.injEq] at hb
      obtain ⟨rfl, hr⟩ := hb
      obtain ⟨p, hp, hp'⟩ := h
      have h0 : p = [] := by
        rw [hp] at hr
        have := congrArg List.length hr
        simp at this
        exact this
      subst h0
      have hp1 : r' = c :: y := hp'
      rw [hr] at hN
      obtain ⟨s', hs'⟩ := hn n s hN
      rw [hp1, hs']
      show (ite _ _ _ : Rs At2) = _
      rw [if_pos hd]
    · rw [if_neg hd]
      have hl : ((mustM 61 (blanksM s)).bind fun _ r2 => quoteM n r2).left <:+ blanksM s := bind_left (must_left 61 _) fun _ r2 _ => (quote_left n r2).trans (blanks_left r2)
      by_cases hs : c :: x <:+ blanksM s
      · obtain ⟨s', hs', hp⟩ := hst.1 n s hN (hs.trans (blanks_left s))
        rw [hs']
        show St c x y _ (ite _ _ _ : Rs At2)
        rw [if_neg hd]
        exact St.bind (st_must 61 (p2_blanks hp hs)) (fun _ t t' _ ht => st_quote n ht) (fun _ t => (quote_left n t).trans (blanks_left t))
      · exact St.vac hl hs
theorem st_attrs (hn : HN c x y) : ∀ (f : Nat) (ats : List At2) (p : List UInt8) (f' : Nat), (p ++ c :: x).length < f → (p ++ c :: y).length < f' → St c x y (attrsM f ats (p ++ c :: x)) (attrsM f' ats (p ++ c :: y))
  | 0, ats, p, f', h, _ => by omega
  | f + 1, ats, p, 0, _, h => by omega
  | f + 1, ats, p, f' + 1, h, h' => by
    by_cases hs : c :: x <:+ blanksM (p ++ c :: x)
    · obtain ⟨q, hq, hq'⟩ := st_blanks (y := y) p hs
      have hiff : (blanksM (p ++ c :: x) = p ++ c :: x) ↔ (blanksM (p ++ c :: y) = p ++ c :: y) := by
        rw [hq, hq']
        constructor <;> intro h <;> rw [List.append_cancel_right h]
      rw [attrsM, attrsM]
      by_cases hb : blanksM (p ++ c :: x) = p ++ c :: x
      · rw [if_pos hb, if_pos (hiff.1 hb)]
        exact St.ok ⟨p, rfl, rfl⟩
      · rw [if_neg hb, if_neg (fun h => hb (hiff.2 h))]
        have hlt := (blanks_left (p ++ c :: x)).length_le
        have hne : (q ++ c :: x).length < (p ++ c :: x).length := by
          rw [hq] at hb hlt
          have := blanks_left (p ++ c :: x)
          rw [hq] at this
          rcases Nat.lt_or_ge (q ++ c :: x).length (p ++ c :: x).length with h | h
          · exact h
          · exact absurd (this.eq_of_length (by omega)) hb
        rw [hq, hq']
        have go : ∀ (d : UInt8) (z z' : List UInt8), d :: z = q ++ c :: x → d :: z' = q ++ c :: y →
            St c x y (if (decide (d = 47) || decide (d = 62)) = true then Rs.ok ats (d :: z) else (attrM ats (d :: z)).bind fun a r2 => attrsM f (ats ++ [a]) r2) (if (decide (d = 47) || decide (d = 62)) = true then Rs.ok ats (d :: z') else (attrM ats (d :: z')).bind fun a r2 => attrsM f' (ats ++ [a]) r2) := by
          intro d z z' hz hz'
          by_cases hd : (decide (d = 47) || decide (d = 62)) = true
          · rw [if_pos hd, if_pos hd]
            exact St.ok ⟨q, hz, hz'⟩
          · rw [if_neg hd, if_neg hd]
            refine St.bind (st_attr hn ats ⟨q, hz, hz'⟩) (fun a s s' ha hss => ?_) (fun a s => attrs_left _ _ _)
            obtain ⟨p2, e1, e2⟩ := hss
            have hl1 := attr_len ha
            have e3 := congrArg List.length hz
            have e4 := congrArg List.length e1
            have hl2 : (p2 ++ c :: y).length < f' := by
              have e5 := congrArg List.length hz'
              simp only [List.length_append, List.length_cons] at *
              omega
            rw [e1, e2]
            exact st_attrs hn f _ p2 f' (by rw [← e1]; omega) hl2
        cases q with
        | nil => exact go c x y rfl rfl
        | cons d q => exact go d (q ++ c :: x) (q ++ c :: y) rfl rfl
    · have h1 : (attrsM (f + 1) ats (p ++ c :: x)).left <:+ blanksM (p ++ c :: x) := by
        rw [attrsM]
        split
        · next hb => rw [hb]; exact List.suffix_refl _
        · split
          · exact List.nil_suffix
          · next d z heq =>
            split
            · rw [heq]; exact List.suffix_refl _
            · rw [heq]
              exact bind_left (attr_left _ _) fun _ _ _ => attrs_left _ _ _
      exact St.vac h1 hs
theorem st_end (n : List UInt8) (ats : List At2) (h : P2 c x y r r') : St c x y (endM n ats r) (endM n ats r') := by
  obtain ⟨p, rfl, rfl⟩ := h
  have go : ∀ (d : UInt8) (z z' : List UInt8), d :: z = p ++ c :: x → d :: z' = p ++ c :: y → (d = 47 → p ≠ [] ∨ True) → St c x y (endM n ats (d :: z)) (endM n ats (d :: z')) := by
    intro d z z' hz hz' _
    unfold endM
    show St c x y (ite _ _ _ : Rs _) (ite _ _ _ : Rs _)
    by_cases hd : d = 47
    · rw [if_pos hd, if_pos hd]
      cases p with
      | nil =>
        simp only [List.nil_append, List.cons.injEq] at hz
        rw [hz.2]
        exact St.vac (z := x) (bind_left (must_left 62 _) fun _ _ _ => List.suffix_refl _) no_suf
      | cons e p =>
        simp only [List.cons_append, List.cons.injEq] at hz hz'
        exact St.bind (st_must 62 ⟨p, hz.2, hz'.2⟩) (fun _ s s' _ hss => St.ok hss) (fun _ _ => List.suffix_refl _)
    · rw [if_neg hd, if_neg hd]
      exact St.bind (st_must 62 ⟨p, hz, hz'⟩) (fun _ s s' _ hss => St.ok hss) (fun _ _ => List.suffix_refl _)
  cases p with
  | nil => exact go c x y rfl rfl (fun _ => .inr trivial)
  | cons d p => exact go d (p ++ c :: x) (p ++ c :: y) rfl rfl (fun _ => .inr trivial)
theorem st_open (hn : HN c x y) (h : P2 c x y r r') : St c x y (openM r) (openM r') := by
  rw [openM_eq, openM_eq]
  refine St.bind (st_name 11 h) (fun n s s' _ hss => ?_) (fun n s => bind_left (attrs_left _ _ _) fun _ _ _ => end_left _ _ _)
  obtain ⟨p, rfl, rfl⟩ := hss
  exact St.bind (st_attrs hn _ _ p _ (Nat.lt_succ_self _) (Nat.lt_succ_self _)) (fun ats t t' _ ht => st_end n ats ht) (fun ats t => end_left _ _ _)
theorem st_close (h : P2 c x y r r') : St c x y (closeM r) (closeM r') := by
  unfold closeM
  refine St.bind (st_name 11 h) (fun n s s' _ hss => ?_) (fun n s => (bind_left (must_left 62 _) fun _ _ _ => List.suffix_refl _).trans (blanks_left s))
  by_cases hs : c :: x <:+ blanksM s
  · exact St.bind (st_must 62 (p2_blanks hss hs)) (fun _ t t' _ ht => St.ok ht) (fun _ _ => List.suffix_refl _)
  · exact St.vac (bind_left (must_left 62 _) fun _ _ _ => List.suffix_refl _) hs
theorem st_okb (f : α → β) (h : St c x y M M') : St c x y (M.bind fun a s => Rs.ok (f a) s) (M'.bind fun a s => Rs.ok (f a) s) :=
  St.bind h (fun _ s s' _ hss => St.ok hss) (fun _ _ => List.suffix_refl _)
theorem open_bang {d : UInt8} {z : List UInt8} (h : isFirst (d.toNat : Int) = false) : openM (d :: z) = .bad 11 (d :: z) := by
  rw [openM, nameM, if_neg (by simp), if_pos (nameL_0.2 h)]; rfl
/-- what a token that begins with < comes to -/
theorem piece_60 (o : Nat) (z : List UInt8) : pieceM o (60 :: z) = if noteF.isPrefixOf (60 :: z) then (betM noteB [] (z.drop 3)).bind fun t r2 => .ok ⟨5, [], [], t, o⟩ r2
    else if cdF.isPrefixOf (60 :: z) then (betM cdB [] (z.drop 8)).bind fun t r2 => .ok ⟨4, [], [], t, o⟩ r2
    else if headM (o == 0) (60 :: z) then (betM headB [] (z.drop 4)).bind fun t r2 => .ok ⟨6, [], [], t, o⟩ r2
    else if z.head? = some 47 then (closeM (z.drop 1)).bind fun n r2 => .ok ⟨3, n, [], [], o⟩ r2
    else (openM z).bind fun x r2 => .ok ⟨x.1, x.2.1, x.2.2, [], o⟩ r2 := by
  rw [pieceM, if_neg (by decide)]
  rfl
theorem snd_not {z : List UInt8} {o : Nat} (h33 : z.head? ≠ some 33) (h63 : z.head? ≠ some 63) : noteF.isPrefixOf (60 :: z) = false ∧ cdF.isPrefixOf (60 :: z) = false ∧ headM (o == 0) (60 :: z) = false := by
  cases z with
  | nil => refine ⟨rfl, rfl, ?_⟩; simp [headM, headF, List.isPrefixOf]
  | cons d z =>
    have n1 : d ≠ 33 := by simpa using h33
    have n2 : d ≠ 63 := by simpa using h63
    exact ⟨by simp [noteF, List.isPrefixOf, n1.symm], by simp [cdF, List.isPrefixOf, n1.symm], by simp [headM, headF, List.isPrefixOf, n2.symm]⟩
theorem st_piece (hn : HN c x y) (h33 : c ≠ 33) (h63 : c ≠ 63) (o : Nat) (p : List UInt8) : St c x y (pieceM o (p ++ c :: x)) (pieceM o (p ++ c :: y)) := by
  cases p with
  | nil =>
    show St c x y (pieceM o (c :: x)) (pieceM o (c :: y))
    by_cases h60 : c = 60
    · subst h60
      refine St.vac (z := x) ?_ no_suf
      rw [piece_60]
      split
      · exact (bind_left (bet_left _ _ _) fun _ _ _ => List.suffix_refl _).trans (List.drop_suffix _ _)
      · split
        · exact (bind_left (bet_left _ _ _) fun _ _ _ => List.suffix_refl _).trans (List.drop_suffix _ _)
        · split
          · exact (bind_left (bet_left _ _ _) fun _ _ _ => List.suffix_refl _).trans (List.drop_suffix _ _)
          · split
            · exact (bind_left (close_left _) fun _ _ _ => List.suffix_refl _).trans (List.drop_suffix _ _)
            · exact bind_left (open_left _) fun _ _ _ => List.suffix_refl _
    · rw [pieceM, if_pos h60, pieceM, if_pos h60]
      exact st_okb (fun t => (⟨4, [], [], t, o⟩ : Tk)) (st_let 60 true _ [] [] _ (Nat.lt_succ_self _) (Nat.lt_succ_self _))
  | cons d p =>
    show St c x y (pieceM o (d :: (p ++ c :: x))) (pieceM o (d :: (p ++ c :: y)))
    by_cases h60 : d = 60
    case neg =>
      rw [pieceM, if_pos h60, pieceM, if_pos h60]
      exact st_okb (fun t => (⟨4, [], [], t, o⟩ : Tk)) (st_let 60 true _ [] (d :: p) _ (Nat.lt_succ_self _) (Nat.lt_succ_self _))
    case pos =>
    subst h60
    rw [piece_60, piece_60]
    cases p with
    | nil =>
      show St c x y (ite _ _ _ : Rs Tk) (ite _ _ _ : Rs Tk)
      obtain ⟨a1, a2, a3⟩ := snd_not (z := c :: x) (o := o) (by simpa using h33) (by simpa using h63)
      obtain ⟨b1, b2, b3⟩ := snd_not (z := c :: y) (o := o) (by simpa using h33) (by simpa using h63)
      simp only [List.nil_append, a1, a2, a3, b1, b2, b3, if_false, Bool.false_eq_true]
      by_cases h47 : (c :: x).head? = some 47
      · rw [if_pos h47]
        exact St.vac (z := x) ((bind_left (close_left _) fun _ _ _ => List.suffix_refl _)) no_suf
      · rw [if_neg h47, if_neg (show ¬ (c :: y).head? = some 47 from h47)]
        exact st_okb (fun z : Int × List UInt8 × List At2 => (⟨z.1, z.2.1, z.2.2, [], o⟩ : Tk)) (st_open hn ⟨[], rfl, rfl⟩)
    | cons d2 p =>
      by_cases hd33 : d2 = 33
      · subst hd33
        by_cases hnote : noteF.isPrefixOf (60 :: ((33 :: p) ++ c :: x)) = true
        · rw [if_pos hnote]
          by_cases hin : c :: x <:+ (((33 :: p) ++ c :: x).drop 3)
          · obtain ⟨⟨q, hq, hq'⟩, ht⟩ := P2.drop (y := y) (r := (33 :: p) ++ c :: x) (r' := (33 :: p) ++ c :: y) ⟨33 :: p, rfl, rfl⟩ hin
            have h2 : noteF.isPrefixOf (60 :: ((33 :: p) ++ c :: y)) = true := by
              rw [← hnote]
              exact pre_take (n := 4) (by rw [List.take_succ_cons, List.take_succ_cons, ht]) (by decide)
            rw [if_pos h2, hq, hq']
            exact st_okb (fun t => (⟨5, [], [], t, o⟩ : Tk)) (st_bet noteB (by decide) (by decide) q [])
          · exact St.vac (bind_left (bet_left _ _ _) fun _ _ _ => List.suffix_refl _) hin
        · rw [if_neg hnote]
          by_cases hcd : cdF.isPrefixOf (60 :: ((33 :: p) ++ c :: x)) = true
          · rw [if_pos hcd]
            by_cases hin : c :: x <:+ (((33 :: p) ++ c :: x).drop 8)
            · obtain ⟨⟨q, hq, hq'⟩, ht⟩ := P2.drop (y := y) (r := (33 :: p) ++ c :: x) (r' := (33 :: p) ++ c :: y) ⟨33 :: p, rfl, rfl⟩ hin
              have h9 : (60 :: ((33 :: p) ++ c :: y)).take 9 = (60 :: ((33 :: p) ++ c :: x)).take 9 := by rw [List.take_succ_cons, List.take_succ_cons, ht]
              have h2 : noteF.isPrefixOf (60 :: ((33 :: p) ++ c :: y)) = noteF.isPrefixOf (60 :: ((33 :: p) ++ c :: x)) := pre_take h9 (by decide)
              have h3 : cdF.isPrefixOf (60 :: ((33 :: p) ++ c :: y)) = true := by
                rw [← hcd]
                exact pre_take h9 (by decide)
              rw [if_neg (by rw [h2]; exact hnote), if_pos h3, hq, hq']
              exact st_okb (fun t => (⟨4, [], [], t, o⟩ : Tk)) (st_bet cdB (by decide) (by decide) q [])
            · exact St.vac (bind_left (bet_left _ _ _) fun _ _ _ => List.suffix_refl _) hin
          · rw [if_neg hcd]
            have h3 : headM (o == 0) (60 :: ((33 :: p) ++ c :: x)) = false := by simp [headM, headF, List.isPrefixOf]
            rw [if_neg (by rw [h3]; decide), if_neg (by simp)]
            show St c x y ((openM (33 :: (p ++ c :: x))).bind _) _
            rw [open_bang (by decide)]
            exact St.other (fun he => by have := congrArg List.length he; simp at this; omega)
      · by_cases hd63 : d2 = 63
        · subst hd63
          have e1 : ∀ z : List UInt8, noteF.isPrefixOf (60 :: ((63 :: p) ++ z)) = false := fun z => by simp [noteF, List.isPrefixOf]
          have e2 : ∀ z : List UInt8, cdF.isPrefixOf (60 :: ((63 :: p) ++ z)) = false := fun z => by simp [cdF, List.isPrefixOf]
          rw [if_neg (by rw [e1]; decide), if_neg (by rw [e2]; decide)]
          by_cases hh : headM (o == 0) (60 :: ((63 :: p) ++ c :: x)) = true
          · rw [if_pos hh]
            by_cases hin : c :: x <:+ (((63 :: p) ++ c :: x).drop 4)
            · obtain ⟨⟨q, hq, hq'⟩, ht⟩ := P2.drop (y := y) (r := (63 :: p) ++ c :: x) (r' := (63 :: p) ++ c :: y) ⟨63 :: p, rfl, rfl⟩ hin
              have h5 : (60 :: ((63 :: p) ++ c :: y))[5]? = (60 :: ((63 :: p) ++ c :: x))[5]? := by
                have g1 : (((63 :: p) ++ c :: x).drop 4)[0]? = (((63 :: p) ++ c :: y).drop 4)[0]? := by
                  rw [hq, hq']
                  cases q <;> rfl
                rw [List.getElem?_drop, List.getElem?_drop] at g1
                rw [List.getElem?_cons_succ, List.getElem?_cons_succ]
                exact g1.symm
              have hpf : headF.isPrefixOf (60 :: ((63 :: p) ++ c :: y)) = headF.isPrefixOf (60 :: ((63 :: p) ++ c :: x)) := pre_take (n := 5) (by rw [List.take_succ_cons, List.take_succ_cons, ht]) (by decide)
              have h2 : headM (o == 0) (60 :: ((63 :: p) ++ c :: y)) = true := by
                rw [← hh]
                unfold headM
                rw [hpf, h5]
              rw [if_neg (by rw [e1]; decide), if_neg (by rw [e2]; decide), if_pos h2, hq, hq']
              exact st_okb (fun t => (⟨6, [], [], t, o⟩ : Tk)) (st_bet headB (by decide) (by decide) q [])
            · exact St.vac (bind_left (bet_left _ _ _) fun _ _ _ => List.suffix_refl _) hin
          · rw [if_neg hh, if_neg (by simp)]
            show St c x y ((openM (63 :: (p ++ c :: x))).bind _) _
            rw [open_bang (by decide)]
            exact St.other (fun he => by have := congrArg List.length he; simp at this; omega)
        · obtain ⟨a1, a2, a3⟩ := snd_not (z := (d2 :: p) ++ c :: x) (o := o) (by simpa using hd33) (by simpa using hd63)
          obtain ⟨b1, b2, b3⟩ := snd_not (z := (d2 :: p) ++ c :: y) (o := o) (by simpa using hd33) (by simpa using hd63)
          simp only [a1, a2, a3, b1, b2, b3, if_false, Bool.false_eq_true]
          by_cases h47 : d2 = 47
          · subst h47
            rw [if_pos (show ((47 :: p) ++ c :: x).head? = some 47 from rfl), if_pos (show ((47 :: p) ++ c :: y).head? = some 47 from rfl)]
            exact st_okb (fun n => (⟨3, n, [], [], o⟩ : Tk)) (st_close ⟨p, rfl, rfl⟩)
          · rw [if_neg (by simpa using h47), if_neg (by simpa using h47)]
            exact st_okb (fun z : Int × List UInt8 × List At2 => (⟨z.1, z.2.1, z.2.2, [], o⟩ : Tk)) (st_open hn ⟨d2 :: p, rfl, rfl⟩)
theorem st_go (hn : HN c x y) (h33 : c ≠ 33) (h63 : c ≠ 63) {l l' : List UInt8} (hl : l.length - (c :: x).length = l'.length - (c :: y).length) (hx : (c :: x).length ≤ l.length) (hy : (c :: y).length ≤ l'.length) {e : Int} (he : E3 e) : ∀ (f : Nat) (acc : List Tk) (p : List UInt8) (f' : Nat), (p ++ c :: x).length < f → (p ++ c :: y).length < f' →
    goM l f acc (p ++ c :: x) = .bad e (c :: x) → goM l' f' acc (p ++ c :: y) = .bad e (c :: y)
  | 0, acc, p, f', h, _, _ => by omega
  | f + 1, acc, p, 0, _, h, _ => by omega
  | f + 1, acc, p, f' + 1, h, h', hg => by
    rw [goM, if_neg (by simp)] at hg
    rw [goM, if_neg (by simp)]
    have ho : l'.length - (p ++ c :: y).length = l.length - (p ++ c :: x).length := by
      simp only [List.length_append, List.length_cons] at *
      omega
    rw [ho]
    have hst := st_piece hn h33 h63 (l.length - (p ++ c :: x).length) p (x := x) (y := y)
    generalize hM' : pieceM (l.length - (p ++ c :: x).length) (p ++ c :: y) = M' at hst ⊢
    cases hM : pieceM (l.length - (p ++ c :: x).length) (p ++ c :: x) with
    | bad e2 z =>
      rw [hM] at hg hst
      have hg2 : (Rs.bad e2 z : Rs (List Tk)) = .bad e (c :: x) := hg
      cases hg2
      rw [hst.2 e he rfl]; rfl
    | ok t r1 =>
      rw [hM] at hg hst
      have hg2 : goM l f (acc ++ [t]) r1 = .bad e (c :: x) := hg
      have hleft := go_left l f (acc ++ [t]) r1
      rw [hg2] at hleft
      obtain ⟨s', h1, p2, h2, h3⟩ := hst.1 t r1 rfl hleft
      rw [h1]
      show goM l' f' (acc ++ [t]) s' = _
      have hlt : r1.length < (p ++ c :: x).length := by
        cases hp : p ++ c :: x with
        | nil => simp at hp
        | cons d z =>
          rw [hp] at hM
          have := (piece_is hM).1.length_le
          simp only [List.length_cons]; omega
      rw [h2] at hg2
      have e2 := congrArg List.length h2
      rw [h3]
      refine st_go hn h33 h63 hl hx hy he f _ p2 f' (by rw [← h2]; omega) ?_ hg2
      simp only [List.length_append, List.length_cons] at *
      omega
theorem stays {l p : List UInt8} {e : Int} (hn : HN c x y) (h33 : c ≠ 33) (h63 : c ≠ 63) (hl : l = p ++ c :: x) (hx : l.length ≤ 65536) (hy : (p ++ c :: y).length ≤ 65536) (he : E3 e) (h : allM l = .bad e (c :: x)) : allM (p ++ c :: y) = .bad e (c :: y) := by
  subst hl
  unfold allM at h ⊢
  rw [if_neg (by omega)] at h ⊢
  exact st_go hn h33 h63 (by simp) (by simp) (by simp) he _ [] p _ (Nat.lt_succ_self _) (Nat.lt_succ_self _) h
end
end
/-! EscB -/
section
set_option maxHeartbeats 2000000 in
/-- chars.Escape -/
theorem EscB (b : Bool) (s : ByteArray) (hs : s.size ≤ 2000000) (w : World) :
    Calls Tryz.prog 73 #[.string s, .bool b] w fun e w' => e = .returned (.string (str (escS b s.data.toList))) ∧ Below w.heap.size w w' := by
  have hlen : s.data.toList.length = s.size := by simp
  have HL := Lib.hid hlen; clear hlen
  go_enter Tryz.func73, Tryz.ntmps73
  go_wp2
  go_loopw [11] (fun i wr => ∃ k : Nat, k ≤ s.size ∧ i = .int .i64 k ∧ Bld w.heap.size w.heap.size (escS b (s.data.toList.take k)) wr ∧ Below w.heap.size w wr) (fun i _ => s.size - (intOf i).toNat)
  case atStart =>
    refine ⟨0, Nat.zero_le _, rfl, ?_, (Below.refl _ _).alloc (Nat.le_refl _) _⟩
    exact .inl ⟨Nat.le_refl _, _, heap_alloc_new w _, World.ownsRow_nil _ _ _ _, by simp [Value.ownBlock]⟩
  case round =>
    obtain ⟨k, hk, rfl, hbu, hb⟩ := hrel
    have hsz := hb.size
    have hl := escS_len b (s.data.toList.take k)
    have hl2 : (s.data.toList.take k).length ≤ k := by simp; omega
    by_cases hlt : k < s.size
    · obtain ⟨c, hc⟩ : ∃ c, s.data.toList[k]? = some c := ⟨_, List.getElem?_eq_getElem (by simpa using hlt)⟩
      have hix := hidx s k c hc
      have HT : Hid (escS b (s.data.toList.take (k + 1)) = escS b (s.data.toList.take k) ++ esc1 b c) := Lib.hid (by rw [take_snoc _ k c hc, escS_snoc])
      clear hc
      obtain ⟨acc, hacc⟩ : ∃ acc, acc = escS b (s.data.toList.take k) := ⟨_, rfl⟩
      rw [← hacc] at hbu hl
      have HA := Lib.hid hacc; clear hacc
      have HB := Lib.hid hbu; clear hbu
      cases hok : escOk b c with
      | true =>
        go_wp2_with fail
        refine (escaped_any b c _).mono ?_
        rintro e w1 ⟨⟨x, rfl, hx, hx6⟩, rfl⟩
        have HX := Lib.hid (hx hok); clear hx
        rw [hok]
        go_wp2_with fail
        refine (bu_writeString w.heap.size w.heap.size acc _ _ HB.out (by simp [ByteArray.size]; omega) hsz).mono ?_
        rintro e w2 ⟨rfl, hbu2, hb2⟩
        go_wp2
        go_roundw
        case rel => exact ⟨k + 1, by omega, by go_num, by rw [HT.out, ← HA.out, ← HX.out]; exact hbu2, hb.trans hb2⟩
        case measure => simp [intOf]; omega
      | false =>
        go_wp2_with fail
        refine (escaped_any b c _).mono ?_
        rintro e w1 ⟨⟨x, rfl, hx, hx6⟩, rfl⟩
        have HX := Lib.hid (esc1_no hok)
        clear hx
        rw [hok]
        go_wp2_with fail
        refine (bu_writeByte w.heap.size w.heap.size acc c _ HB.out (by omega) hsz).mono ?_
        rintro e w2 ⟨rfl, hbu2, hb2⟩
        go_wp2
        go_roundw
        case rel => exact ⟨k + 1, by omega, by go_num, by rw [HT.out, ← HA.out, HX.out]; exact hbu2, hb.trans hb2⟩
        case measure => simp [intOf]; omega
    · have HT : Hid (s.data.toList.take k = s.data.toList) := Lib.hid (List.take_of_length_le (by rw [HL.out]; omega))
      go_wp2_with fail
      refine (Tryz.Builder_String_any w.heap.size w.heap.size _ _ hbu hsz).mono ?_
      rintro e w2 ⟨rfl, hb2⟩
      go_wp2
      go_ret
      exact ⟨ret_str (by rw [HT.out]; rfl), hb.trans hb2⟩

set_option maxHeartbeats 8000000 in
theorem refEscB_true (s : ByteArray) (hs : s.size ≤ 2000000) (w : World) :
    Calls Tryz.prog 30 #[.string s, .bool true] w fun e w' => e = .returned (.string (str (escS true s.data.toList))) ∧ w' = w := by
  have hlen : s.data.toList.length = s.size := by simp
  have HL := Lib.hid hlen; clear hlen
  go_enter Tryz.func30, Tryz.ntmps30
  go_wp2
  go_loop [5, 6] (fun out i => ∃ k : Nat, k ≤ s.size ∧ i = .int .i64 k ∧ out = .string (str (escS true (s.data.toList.take k)))) (fun _ i => s.size - (intOf i).toNat)
  case atStart => exact ⟨0, Nat.zero_le _, rfl, rfl⟩
  case round =>
    obtain ⟨k, hk, rfl, rfl⟩ := hrel
    have hl := escS_len true (s.data.toList.take k)
    have hl2 : (s.data.toList.take k).length ≤ k := by simp; omega
    by_cases hlt : k < s.size
    · obtain ⟨c, hc⟩ : ∃ c, s.data.toList[k]? = some c := ⟨_, List.getElem?_eq_getElem (by simpa using hlt)⟩
      have hsl : ∀ w, (Instr.slice 9 (.string s) (some (.int .i64 k)) (some (.int .i64 ((k:Int)+1))) none).run Tryz.prog w = .ok (.string (str [c])) w := fun w => by
        rw [run_slice_string w 9 s _ _ _ _ Tryz.underlying9 (by omega) (by omega) (by omega), ← ext_one s k c hc]; rfl
      have HT : Hid (escS true (s.data.toList.take (k + 1)) = escS true (s.data.toList.take k) ++ esc1 true c) := Lib.hid (by rw [take_snoc _ k c hc, escS_snoc])
      clear hc
      obtain ⟨acc, hacc⟩ : ∃ acc, acc = escS true (s.data.toList.take k) := ⟨_, rfl⟩
      rw [← hacc] at hl
      have hsz : (str acc).size ≤ 6 * k := by rw [size_str]; omega
      rw [← hacc]
      have HA := Lib.hid hacc; clear hacc
      have h1 : (k : Int) + 1 ≤ s.size := by omega
      clear hl hl2
      have hc1 : (str [c]).size ≤ 1 := by rw [size_str]; simp
      go_wp2
      all_goals
        refine ⟨⟨k + 1, by omega, ?_⟩, by simp [intOf]; omega⟩
        refine ⟨by first | go_num | omega, ?_⟩
        try apply congrArg Value.string
        rw [HT.out, ← HA.out]
        first
          | rw [app_str]
          | rw [app_lit]
        simp [esc1, ← one_eq, *]
    · have HT : Hid (s.data.toList.take k = s.data.toList) := Lib.hid (List.take_of_length_le (by rw [HL.out]; omega))
      go_wp2
      go_ret
      exact ⟨ret_str (by rw [HT.out]), rfl⟩
set_option maxHeartbeats 8000000 in
theorem refEscB_false (s : ByteArray) (hs : s.size ≤ 2000000) (w : World) :
    Calls Tryz.prog 30 #[.string s, .bool false] w fun e w' => e = .returned (.string (str (escS false s.data.toList))) ∧ w' = w := by
  have hlen : s.data.toList.length = s.size := by simp
  have HL := Lib.hid hlen; clear hlen
  go_enter Tryz.func30, Tryz.ntmps30
  go_wp2
  go_loop [5, 6] (fun out i => ∃ k : Nat, k ≤ s.size ∧ i = .int .i64 k ∧ out = .string (str (escS false (s.data.toList.take k)))) (fun _ i => s.size - (intOf i).toNat)
  case atStart => exact ⟨0, Nat.zero_le _, rfl, rfl⟩
  case round =>
    obtain ⟨k, hk, rfl, rfl⟩ := hrel
    have hl := escS_len false (s.data.toList.take k)
    have hl2 : (s.data.toList.take k).length ≤ k := by simp; omega
    by_cases hlt : k < s.size
    · obtain ⟨c, hc⟩ : ∃ c, s.data.toList[k]? = some c := ⟨_, List.getElem?_eq_getElem (by simpa using hlt)⟩
      have hsl : ∀ w, (Instr.slice 9 (.string s) (some (.int .i64 k)) (some (.int .i64 ((k:Int)+1))) none).run Tryz.prog w = .ok (.string (str [c])) w := fun w => by
        rw [run_slice_string w 9 s _ _ _ _ Tryz.underlying9 (by omega) (by omega) (by omega), ← ext_one s k c hc]; rfl
      have HT : Hid (escS false (s.data.toList.take (k + 1)) = escS false (s.data.toList.take k) ++ esc1 false c) := Lib.hid (by rw [take_snoc _ k c hc, escS_snoc])
      clear hc
      obtain ⟨acc, hacc⟩ : ∃ acc, acc = escS false (s.data.toList.take k) := ⟨_, rfl⟩
      rw [← hacc] at hl
      have hsz : (str acc).size ≤ 6 * k := by rw [size_str]; omega
      rw [← hacc]
      have HA := Lib.hid hacc; clear hacc
      have h1 : (k : Int) + 1 ≤ s.size := by omega
      clear hl hl2
      have hc1 : (str [c]).size ≤ 1 := by rw [size_str]; simp
      go_wp2
      all_goals
        refine ⟨⟨k + 1, by omega, ?_⟩, by simp [intOf]; omega⟩
        refine ⟨by first | go_num | omega, ?_⟩
        try apply congrArg Value.string
        rw [HT.out, ← HA.out]
        first
          | rw [app_str]
          | rw [app_lit]
        simp [esc1, ← one_eq, *]
    · have HT : Hid (s.data.toList.take k = s.data.toList) := Lib.hid (List.take_of_length_le (by rw [HL.out]; omega))
      go_wp2
      go_ret
      exact ⟨ret_str (by rw [HT.out]), rfl⟩
/-- the answer's Escape -/
theorem refEscB (b : Bool) (s : ByteArray) (hs : s.size ≤ 2000000) (w : World) :
    Calls Tryz.prog 30 #[.string s, .bool b] w fun e w' => e = .returned (.string (str (escS b s.data.toList))) ∧ w' = w := by
  cases b
  · exact refEscB_false s hs w
  · exact refEscB_true s hs w
end
/-! Bld2 -/
section
set_option maxRecDepth 100000

theorem buk_size : (Tryz.prog.info? 89).map (·.size) = some 2 := by kernel_rfl
theorem buk_lies : liesAt Tryz.prog Tryz.prog.depth 89 (2 / Tryz.prog.cellsOf 89) 0 89 1 = true := by kernel_rfl
theorem buk_byte : (Tryz.prog.info? 5).map (fun i => (i.zero, i.size, i.bytes)) = some (some (.int .u8 0), 1, 1) := by kernel_rfl

theorem buk_check (B b : Nat) (bs : List Value) (w : World) (h : Lib.IsBuilder 89 5 B b bs w) :
    Calls Tryz.prog 93 #[.pointer (some ⟨b, 0, none⟩)] w fun e w' => e = .returned (.tuple #[]) ∧ Lib.BuilderAt 89 5 B b (.pointer (some ⟨b, 0, none⟩)) bs w' ∧ Below B w w' ∧ Lib.OthersKept 5 (some b) w w' := by
  obtain ⟨j, hj, hjs⟩ := Option.map_eq_some_iff.1 buk_size
  rcases h with h | h
  · have h0 := h.cell0
    have hsh := h.shape
    have hfz := h.frozen0
    have HB := Lib.hid h
    have s1 : ∀ w : World, w.shape? b = some (89, 2) → (convert 86 130 (.pointer (some ⟨b, 0, none⟩))).run Tryz.prog w = .ok (.pointer (some ⟨b, 0, none⟩)) w := fun w hs =>
      Lib.run_to_unsafe w ⟨b, 0, none⟩ Tryz.underlying86 Tryz.underlying130 hj (by rw [hjs]; decide) hs (Nat.zero_lt_succ 1)
    have s3 : ∀ w : World, w.shape? b = some (89, 2) → (convert 130 86 (.pointer (some ⟨b, 0, none⟩))).run Tryz.prog w = .ok (.pointer (some ⟨b, 0, none⟩)) w := fun w hs =>
      Lib.run_from_unsafe w ⟨b, 0, none⟩ Tryz.underlying130 Tryz.underlying86 hj hs buk_lies
    have t1 := s1 w hsh
    have t3 := s3 w hsh
    clear h s1 s3
    go_enter Tryz.func93, Tryz.ntmps93
    go_wp2
    rw [run_callFunc_extern Tryz.func113 (by kernel_rfl) (by kernel_rfl) (by kernel_rfl) (e := Extern.AbiNoEscape.same) (by kernel_rfl), Lib.run_noEscape]
    simp only [Result.andThen]
    rw [Oper.upon_value]
    go_wp2
    go_end0
    exact ⟨rfl, HB.out.used _, (Below.refl B w).setCell (p := ⟨b, 0, none⟩) HB.out.1 _, (Lib.OthersKept.refl _ _ w).setCell ⟨b, 0, none⟩ rfl _⟩
  · have h0 := h.cell0
    have HB := Lib.hid h
    have hne := Lib.run_neq_ptr_same w (⟨b, 0, none⟩ : Addr) Tryz.underlying86 hj
    clear h
    go_enter Tryz.func93, Tryz.ntmps93
    go_wp2
    go_end0
    exact ⟨rfl, HB.out, Below.refl B w, Lib.OthersKept.refl _ _ w⟩

theorem own_tag {w : World} {base e n s : Nat} {v : Value} {xs : List Value} (h : w.ownsRow base e s v n xs) : ∀ k, v.ownBlock = some k → ∃ c fz, w.heap[k]? = some (.cells c e fz) := by
  intro k hk
  rcases h.2 with ⟨rfl, _⟩ | ⟨g, cap, cur, rfl, _, hg, _⟩
  · simp [Value.ownBlock] at hk
  · have : g = k := by simpa [Value.ownBlock] using hk
    subst this
    exact ⟨_, _, hg⟩
theorem buk_block {T e : TypeId} {B b : Nat} {p : Value} {bs : List Value} {w w2 : World} {v : Value} (hbk : w.heap[b]? = some (.cells #[p, v] T (0, 0))) (hg : w.grownBy w2 v.ownBlock) (hne : v.ownBlock ≠ some b) : w2.heap[b]? = some (.cells #[p, v] T (0, 0)) := by
  have hlt : b < w.heap.size := (Array.getElem?_eq_some_iff.1 hbk).1
  rw [hg.block b hlt (fun e => hne e.symm)]
  exact hbk

theorem buk_writeByte (B b : Nat) (l : List UInt8) (c : UInt8) (w : World) (h : Bld B b l w) (hl : l.length ≤ 1000000000) (hB : B ≤ w.heap.size) :
    Calls Tryz.prog 95 #[.pointer (some ⟨b, 0, none⟩), .int .u8 c.toNat] w fun e w' => e = .returned .nilIface ∧ Bld B b (l ++ [c]) w' ∧ Below B w w' ∧ Lib.OthersKept 5 (some b) w w' := by
  have hcells : (Lib.byteCells l).length = l.length := by simp [Lib.byteCells]
  go_enter Tryz.func95, Tryz.ntmps95
  go_wp2_with fail
  refine (buk_check B b _ _ h).mono ?_
  rintro e w1 ⟨rfl, h1, hb1, hk1⟩
  have HK1 := Lib.hid hk1; clear hk1
  obtain ⟨hBb, v, hbk, hown, hne⟩ := h1
  rw [hcells] at hown
  have c0 : w1.cell? ⟨b, 0, none⟩ = some (.pointer (some ⟨b, 0, none⟩)) := by rw [Lib.cell_of_heap hbk]; rfl
  have c1 : w1.cell? ⟨b, 1, none⟩ = some v := by rw [Lib.cell_of_heap hbk]; rfl
  have hsz := hb1.size
  have HBK := Lib.hid hbk; clear hbk
  have HNE := Lib.hid hne; clear hne
  go_wp2_with (at_builtin
               refine app1 rfl _ _ 87 5 rfl (.int .u8 0) 1 B l.length Tryz.underlying87 buk_byte rfl v _ rfl hown rfl rfl (by omega) (by omega) (by omega) ?_)
  intro v1 w2 ho1 hg1 hb2
  have HK2 := Lib.hid (HK1.out.grown hg1 (own_tag hown)); clear HK1
  have hbk2 := buk_block (bs := []) (T := 89) (e := 5) (B := B) HBK.out hg1 HNE.out
  have d0 : w2.cell? ⟨b, 0, none⟩ = some (.pointer (some ⟨b, 0, none⟩)) := by rw [Lib.cell_of_heap hbk2]; rfl
  have d1 : w2.cell? ⟨b, 1, none⟩ = some v := by rw [Lib.cell_of_heap hbk2]; rfl
  have f1 : w2.frozen? ⟨b, 1, none⟩ = false := Lib.frozen_of_heap hbk2 1
  have HBK2 := Lib.hid hbk2; clear hbk2
  obtain ⟨g, cap, rfl⟩ : ∃ g cap, v1 = .slice (some ⟨g, 0, none⟩) (l.length + 1) cap := by
    rcases ho1.2 with ⟨_, h0⟩ | ⟨g, cap, cur, hv, _⟩
    · omega
    · exact ⟨g, cap, hv⟩
  go_wp2
  go_ret
  refine ⟨rfl, ?_, ?_, HK2.out.setCell ⟨b, 1, none⟩ rfl _⟩
  · exact .inr (Lib.BuilderAt.put (T := 89) (e := 5) hBb HBK2.out (bs' := Lib.byteCells (l ++ [c])) (by simpa [Lib.byteCells] using ho1) (by decide))
  · exact (hb1.trans hb2).setCell (p := ⟨b, 1, none⟩) hBb _

theorem buk_writeString (B b : Nat) (l : List UInt8) (s : ByteArray) (w : World) (h : Bld B b l w) (hl : l.length + s.size ≤ 1000000000) (hB : B ≤ w.heap.size) :
    Calls Tryz.prog 72 #[.pointer (some ⟨b, 0, none⟩), .string s] w fun e w' => e = .returned (.tuple #[.int .i64 s.size, .nilIface]) ∧ Bld B b (l ++ s.data.toList) w' ∧ Below B w w' ∧ Lib.OthersKept 5 (some b) w w' := by
  have hcells : (Lib.byteCells l).length = l.length := by simp [Lib.byteCells]
  obtain ⟨i0, hi, hz0, hz1, hz2⟩ := info_parts buk_byte
  go_enter Tryz.func72, Tryz.ntmps72
  go_wp2_with fail
  refine (buk_check B b _ _ h).mono ?_
  rintro e w1 ⟨rfl, h1, hb1, hk1⟩
  have HK1 := Lib.hid hk1; clear hk1
  obtain ⟨hBb, v, hbk, hown, hne⟩ := h1
  rw [hcells] at hown
  have c0 : w1.cell? ⟨b, 0, none⟩ = some (.pointer (some ⟨b, 0, none⟩)) := by rw [Lib.cell_of_heap hbk]; rfl
  have c1 : w1.cell? ⟨b, 1, none⟩ = some v := by rw [Lib.cell_of_heap hbk]; rfl
  have hsz := hb1.size
  have HBK := Lib.hid hbk; clear hbk
  have HNE := Lib.hid hne; clear hne
  go_wp2_with (at_builtin
               refine Lib.wpList_append_own_string _ rfl _ _ 87 9 rfl B 5 i0 Tryz.underlying87 Tryz.underlying9 hi hz0 hz1 hz2 v _ _ rfl hown s rfl (by unfold maxLen; omega) (by omega) (by omega) ?_)
  intro v1 w2 ho1 hg1 _
  have HK2 := Lib.hid (HK1.out.grown hg1 (own_tag hown)); clear HK1
  have hlt : ∀ k, v.ownBlock = some k → B ≤ k := fun k hk => (hown.lt k hk).1
  have hbk2 := buk_block (bs := []) (T := 89) (e := 5) (B := B) HBK.out hg1 HNE.out
  have d0 : w2.cell? ⟨b, 0, none⟩ = some (.pointer (some ⟨b, 0, none⟩)) := by rw [Lib.cell_of_heap hbk2]; rfl
  have d1 : w2.cell? ⟨b, 1, none⟩ = some v := by rw [Lib.cell_of_heap hbk2]; rfl
  have f1 : w2.frozen? ⟨b, 1, none⟩ = false := Lib.frozen_of_heap hbk2 1
  have HBK2 := Lib.hid hbk2; clear hbk2
  have HLT := Lib.hid hlt; clear hlt
  obtain ⟨ao, n', cap, rfl⟩ : ∃ ao n' cap, v1 = .slice ao n' cap := by
    rcases ho1.2 with ⟨hv, _⟩ | ⟨g, cap, cur, hv, _⟩
    · exact ⟨_, _, _, hv⟩
    · exact ⟨_, _, _, hv⟩
  go_wp2
  go_ret2
  refine ⟨rfl, ?_, ?_, HK2.out.setCell ⟨b, 1, none⟩ rfl _⟩
  · exact .inr (Lib.BuilderAt.put (T := 89) (e := 5) hBb HBK2.out (bs' := Lib.byteCells (l ++ s.data.toList)) (by simpa [Lib.byteCells, Lib.strCells] using ho1) (by decide))
  · exact (hb1.grown hg1 (by omega) HLT.out).setCell (p := ⟨b, 1, none⟩) hBb _
end
/-! Print2 -/
section
/-- what an attribute, a tag up to its end, a token is printed as -/
def atP (p : At2) : List UInt8 := 32 :: (p.1 ++ [61, 34] ++ escS true p.2 ++ [34])
def tagP (n : List UInt8) (ats : List At2) : List UInt8 := 60 :: (n ++ ats.flatMap atP)
def prT (k : Int) (n : List UInt8) (ats : List At2) (t : List UInt8) : List UInt8 :=
  if k = 5 then 60 :: 33 :: 45 :: 45 :: (t ++ [45, 45, 62])
  else if k = 6 then 60 :: 63 :: 120 :: 109 :: 108 :: (t ++ [63, 62])
  else if k = 4 then escS false t
  else if k = 3 then 60 :: 47 :: (n ++ [62])
  else if k = 1 then tagP n ats ++ [62]
  else if k = 2 then tagP n ats ++ [47, 62]
  else []
def prM (l : List Tm) : List UInt8 := l.flatMap fun x => prT x.k x.n x.ats x.t
theorem Bld.below {B b : Nat} {bs : List UInt8} {w w' : World} (h : Bld B b bs w) (hb : Below w.heap.size w w') : Bld B b bs w' := by
  have one : ∀ p, Lib.BuilderAt 89 5 B b p (Lib.byteCells bs) w → Lib.BuilderAt 89 5 B b p (Lib.byteCells bs) w' := by
    rintro p ⟨hB, v, hc, hown, hne⟩
    exact ⟨hB, v, (hb.block b (Array.getElem?_eq_some_iff.1 hc).1).trans hc, own_belowG hown hb, hne⟩
  exact h.imp (one _) (one _)
theorem cat_at (n e : List UInt8) : ((⟨#[32]⟩ ++ str n) ++ ⟨#[61, 34]⟩) ++ str e ++ ⟨#[34]⟩ = str (32 :: (n ++ [61, 34] ++ e ++ [34])) := by
  show ((str [32] ++ str n) ++ str [61, 34]) ++ str e ++ str [34] = _
  simp only [app_str]
  simp
theorem esc_ge (b : Bool) (v : List UInt8) : v.length ≤ (escS b v).length := by
  induction v with
  | nil => simp
  | cons c v ih =>
    have : 1 ≤ (esc1 b c).length := by
      unfold esc1
      repeat' split
      all_goals simp
    simp only [escS, List.flatMap_cons, List.length_append, List.length_cons] at ih ⊢
    omega
theorem at_snoc (l : List At2) (k : Nat) (p : At2) (h : l[k]? = some p) : (l.take (k + 1)).flatMap atP = (l.take k).flatMap atP ++ atP p := by rw [take_snoc _ k p h]; simp
theorem at_le (l : List At2) (k : Nat) : ((l.take k).flatMap atP).length ≤ (l.flatMap atP).length := by
  conv => rhs; rw [← List.take_append_drop k l]
  rw [List.flatMap_append, List.length_append]
  omega
set_option maxRecDepth 100000 in
set_option maxHeartbeats 4000000 in
theorem printTag_at (B b : Nat) (acc E n t : List UInt8) (k p0 p1 p2 : Int) (va : Value) (L : List At2) (w0 w : World) (hw0 : w0.heap.size ≤ B) (hb0 : Below w0.heap.size w0 w) (hr : RdAs w0 va L) (hv : ∀ p ∈ L, p.2.length ≤ 2000000)
    (hsz : acc.length + (tagP n L).length + E.length ≤ 100000000) (hB : B ≤ w.heap.size) (hbd : Bld B b acc w) :
    Calls Tryz.prog 74 #[.pointer (some ⟨b, 0, none⟩), .agg #[.int .i64 k, .string (str n), va, .string (str t), .int .i64 p0, .int .i64 p1, .int .i64 p2], .string (str E)] w
      fun e w' => e = .returned (.tuple #[]) ∧ Bld B b (acc ++ tagP n L ++ E) w' ∧ Below B w w' := by
  obtain ⟨aa, ac, hva⟩ := RdSl.shape hr
  subst hva
  have hla := RdSl.len hr
  have hlaI : (L.length : Int) ≤ 9223372036854775807 := by omega
  obtain ⟨wT, hwT⟩ : ∃ wT, wT = w.alloc (.cells #[.int .i64 k, .string (str n), .slice aa L.length ac, .string (str t), .int .i64 p0, .int .i64 p1, .int .i64 p2] 51) := ⟨_, rfl⟩
  have hbT : Below w.heap.size w wT := by rw [hwT]; exact (Below.refl _ _).alloc (Nat.le_refl _) _
  have hrow : wT.heap[w.heap.size]? = some (.cells #[.int .i64 k, .string (str n), .slice aa L.length ac, .string (str t), .int .i64 p0, .int .i64 p1, .int .i64 p2] 51 (0, 0)) := by rw [hwT]; exact heap_alloc_new w _
  have HR := Lib.hid hr
  have HB0 := Lib.hid hb0
  have HVL := Lib.hid hv
  have HSZ := Lib.hid hsz
  have HBD := Lib.hid (hbd.below hbT)
  have HBT := Lib.hid hbT
  have HROW := Lib.hid hrow
  have hBT : B ≤ wT.heap.size := Nat.le_trans hB hbT.size
  have HBS := Lib.hid hBT
  have hbB : b < w.heap.size := by
    rcases hbd with h | h <;> exact (Array.getElem?_eq_some_iff.1 h.2.choose_spec.1).1
  have HNE := Lib.hid (show w.heap.size ≠ b by omega)
  have HW0 := Lib.hid hw0
  have HBB := Lib.hid hB
  have HWT := Lib.hid hwT
  have hnI : ((str n).size : Int) ≤ 100000000 := by rw [size_str]; simp only [tagP, List.length_cons, List.length_append] at hsz; omega
  have z1 : wT.cell? ⟨w.heap.size, 1, none⟩ = some (.string (str n)) := by rw [cell_of_row wT _ 1 _ _ (0, 0) hrow]; rfl
  have HC1 := Lib.hid (show (⟨#[60]⟩ : ByteArray) ++ str n = str (60 :: n) from app_str [60] n)
  have HWS := Lib.hid (buk_writeString B b acc (str (60 :: n)) wT HBD.out (by rw [size_str]; simp only [tagP, List.length_cons, List.length_append] at hsz ⊢; omega) hBT)
  clear hr hb0 hv hsz hbT hrow hBT hbB hB hbd hw0 hla hwT
  go_enter Tryz.func74, Tryz.ntmps74
  go_upto_region 1 with fail
  rw [← HWT.out]
  go_wp2_with fail
  rw [HC1.out]
  refine HWS.out.mono ?_
  rintro e w2 ⟨rfl, hbd2, hb2, hok2⟩
  have hrow2 := hok2 _ _ HROW.out (by simp only [ne_eq, Option.some.injEq]; exact HNE.out) (fun c fz h => by cases h)
  have HBD2 := Lib.hid hbd2
  have HB2 := Lib.hid ((HBT.out.mono HBB.out).trans hb2)
  have HB02 := Lib.hid (HB0.out.trans ((HB2.out.mono HW0.out).mono (Nat.le_refl _)))
  have z2 : w2.cell? ⟨w.heap.size, 2, none⟩ = some (.slice aa L.length ac) := by rw [cell_of_row w2 _ 2 _ _ (0, 0) hrow2]; rfl
  have HS2 := Lib.hid (show B ≤ w2.heap.size from Nat.le_trans HBS.out hb2.size)
  clear z1 hbd2 hb2 hok2 hrow2 hnI
  have hul : (str (60 :: n)).data.toList = 60 :: n := rfl
  go_upto_region 3 with fail
  clear z2 hul
  go_loopw [16] (fun i wr => ∃ q : Nat, q ≤ L.length ∧ i = .int .i64 q ∧ Bld B b (acc ++ 60 :: n ++ (L.take q).flatMap atP) wr ∧ Below B w wr) (fun i _ => L.length - (intOf i).toNat)
  case atStart => exact ⟨0, by omega, rfl, by have := HBD2.out; rw [toList_str] at this; simpa using this, HB2.out⟩
  case round =>
    obtain ⟨q, hq, rfl, hbdr, hbr⟩ := hrel
    have HBDR := Lib.hid hbdr
    have HBR := Lib.hid hbr
    have hBr : B ≤ wr.heap.size := Nat.le_trans HBB.out hbr.size
    have HBRS := Lib.hid hBr
    have HB0R := Lib.hid (HB0.out.trans (hbr.mono HW0.out))
    clear hbdr hbr
    by_cases hlt : q < L.length
    · obtain ⟨x, hx⟩ : ∃ x, L[q]? = some x := ⟨_, List.getElem?_eq_getElem hlt⟩
      obtain ⟨a1, e1, d0, d1⟩ := RdSl.elem (HR.out.below HB0R.out (Nat.le_refl _)) hx
      subst e1
      obtain ⟨an, av⟩ := x
      have HX := Lib.hid hx
      have hvl := HVL.out _ (List.mem_of_getElem? hx)
      obtain ⟨wb, hwb⟩ : ∃ wb, wb = wr.alloc (.cells #[.string (str an), .string (str av)] 68) := ⟨_, rfl⟩
      have hbb : Below wr.heap.size wr wb := by rw [hwb]; exact (Below.refl _ _).alloc (Nat.le_refl _) _
      have hrow : wb.heap[wr.heap.size]? = some (.cells #[.string (str an), .string (str av)] 68 (0, 0)) := by rw [hwb]; exact heap_alloc_new wr _
      have HROWB := Lib.hid hrow
      have HBWB := Lib.hid (HBR.out.trans (hbb.mono hBr))
      have HBDB := Lib.hid (HBDR.out.below hbb)
      have HSB := Lib.hid (Nat.le_trans hBr hbb.size)
      have HWB := Lib.hid hwb
      have hqI : (q : Int) < (L.length : Int) := by omega
      have hlen : acc.length + (60 :: n).length + ((L.take q).flatMap atP).length + (atP (an, av)).length ≤ 100000000 := by
        have h1 := HSZ.out
        have h2 := at_le L (q + 1)
        rw [at_snoc L q _ hx, List.length_append] at h2
        simp only [tagP, List.length_cons, List.length_append] at h1 h2 ⊢
        omega
      have HLEN := Lib.hid hlen
      have hel := esc_ge true av
      have hanI : ((str an).size : Int) ≤ 100000000 := by rw [size_str]; simp only [atP, List.length_cons, List.length_append] at hlen; omega
      have heI : ((str (escS true av)).size : Int) ≤ 100000000 := by rw [size_str]; simp only [atP, List.length_cons, List.length_append] at hlen; omega
      have HES := Lib.hid (fun w => EscB true (str av) (by rw [size_str]; exact hvl) w)
      have HKB := Lib.hid (show wr.heap.size ≠ b by
        have : b < wr.heap.size := by rcases HBDR.out with h | h <;> exact (Array.getElem?_eq_some_iff.1 h.2.choose_spec.1).1
        omega)
      clear hbb hrow hwb hx hlen hel hvl hBr
      go_upto_region 5 with fail
      rw [← HWB.out]
      generalize wr.heap.size = KB at HROWB HKB ⊢
      clear d0 d1
      have C0 := Lib.hid (fun (w1 : World) (h : w1.heap[KB]? = some (.cells #[.string (str an), .string (str av)] 68 (0, 0))) => (show w1.cell? ⟨KB, 0, none⟩ = some (.string (str an)) from by rw [cell_of_row w1 KB 0 _ _ (0, 0) h]; rfl))
      have C1 := Lib.hid (fun (w1 : World) (h : w1.heap[KB]? = some (.cells #[.string (str an), .string (str av)] 68 (0, 0))) => (show w1.cell? ⟨KB, 1, none⟩ = some (.string (str av)) from by rw [cell_of_row w1 KB 1 _ _ (0, 0) h]; rfl))
      have HCAT := Lib.hid (cat_at an (escS true av))
      obtain ⟨ev, hev⟩ : ∃ ev, ev = escS true av := ⟨_, rfl⟩
      rw [toList_str] at HES
      rw [← hev] at heI HES HCAT
      have HEV := Lib.hid hev
      clear hev
      have HWW := Lib.hid (fun w1 (hb : Below wb.heap.size wb w1) => buk_writeString B b (acc ++ 60 :: n ++ (L.take q).flatMap atP) (str (atP (an, av))) w1 (HBDB.out.below hb) (by rw [size_str]; have := HLEN.out; simp only [List.length_append, List.length_cons] at this ⊢; omega) (Nat.le_trans HSB.out hb.size))
      have HAT := Lib.hid (show atP (an, av) = 32 :: (an ++ [61, 34] ++ ev ++ [34]) by rw [HEV.out]; rfl)
      refine wp_region_held_drew (S := (fun (w1 : World) => w1.heap[KB]? = some (.cells #[.string (str an), .string (str av)] 68 (0, 0)))) (by kernel_rfl) (by (try dsimp only); exact HROWB.out) (fun hHeld => ?_)
      have hD : Below wb.heap.size wb wb.drew := (Below.refl _ _).drew
      generalize wb.drew = wd at hHeld hD ⊢
      refine wpAnyH_take (i := 0) (v := ?_) (by (simp only [List.getElem?_toArray, List.getElem?_cons_succ, List.getElem?_cons_zero]; rfl)) (by kernel_rfl) (by kernel_rfl) (by kernel_rfl) (by intro _ _ _ h; exact h) (Or.inl ⟨by rfl, ?_⟩) (by assumption) ?_
      rotate_left
      · (intro w hSw; (try dsimp only at hSw); go_simp; try (with_reducible rfl))
      simp only [Act.put, List.setIfInBounds_toArray, List.set_cons_zero, List.set_cons_succ]
      refine wpAnyH_take (i := 1) (v := ?_) (by (simp only [List.getElem?_toArray, List.getElem?_cons_succ, List.getElem?_cons_zero]; rfl)) (by kernel_rfl) (by kernel_rfl) (by kernel_rfl) (by intro _ _ _ h; exact h) (Or.inl ⟨by rfl, ?_⟩) (by assumption) ?_
      rotate_left
      · (intro w hSw; (try dsimp only at hSw); go_simp; try (with_reducible rfl))
      simp only [Act.put, List.setIfInBounds_toArray, List.set_cons_zero, List.set_cons_succ]
      refine wpAnyH_take (i := 2) (v := ?_) (by (simp only [List.getElem?_toArray, List.getElem?_cons_succ, List.getElem?_cons_zero]; rfl)) (by kernel_rfl) (by kernel_rfl) (by kernel_rfl) (by intro _ _ _ h; exact h) (Or.inl ⟨by rfl, ?_⟩) (by assumption) ?_
      rotate_left
      · (intro w hSw; have q1 := C0.out w hSw; go_simp; try (with_reducible rfl))
      simp only [Act.put, List.setIfInBounds_toArray, List.set_cons_zero, List.set_cons_succ]
      refine wpAnyH_take (i := 3) (v := ?_) (by (simp only [List.getElem?_toArray, List.getElem?_cons_succ, List.getElem?_cons_zero]; rfl)) (by kernel_rfl) (by kernel_rfl) (by kernel_rfl) (by intro _ _ _ h; exact h) (Or.inl ⟨by rfl, ?_⟩) (by assumption) ?_
      rotate_left
      · (intro w hSw; (try dsimp only at hSw); go_simp; first | (with_reducible rfl) | (rw [if_neg (by omega)]; try (with_reducible rfl)))
      simp only [Act.put, List.setIfInBounds_toArray, List.set_cons_zero, List.set_cons_succ]
      refine wpAnyH_take (i := 4) (v := ?_) (by (simp only [List.getElem?_toArray, List.getElem?_cons_succ, List.getElem?_cons_zero]; rfl)) (by kernel_rfl) (by kernel_rfl) (by kernel_rfl) (by intro _ _ _ h; exact h) (Or.inl ⟨by rfl, ?_⟩) (by assumption) ?_
      rotate_left
      · (intro w hSw; (try dsimp only at hSw); go_simp; first | (with_reducible rfl) | (rw [if_neg (by omega)]; try (with_reducible rfl)))
      simp only [Act.put, List.setIfInBounds_toArray, List.set_cons_zero, List.set_cons_succ]
      refine wpAnyH_take (i := 5) (v := ?_) (by (simp only [List.getElem?_toArray, List.getElem?_cons_succ, List.getElem?_cons_zero]; rfl)) (by kernel_rfl) (by kernel_rfl) (by kernel_rfl) (by intro _ _ _ h; exact h) (Or.inl ⟨by rfl, ?_⟩) (by assumption) ?_
      rotate_left
      · (intro w hSw; (try dsimp only at hSw); go_simp; try (with_reducible rfl))
      simp only [Act.put, List.setIfInBounds_toArray, List.set_cons_zero, List.set_cons_succ]
      refine wpAnyH_take (i := 6) (v := ?_) (by (simp only [List.getElem?_toArray, List.getElem?_cons_succ, List.getElem?_cons_zero]; rfl)) (by kernel_rfl) (by kernel_rfl) (by kernel_rfl) (by intro _ _ _ h; exact h) (Or.inl ⟨by rfl, ?_⟩) (by assumption) ?_
      rotate_left
      · (intro w hSw; have q1 := C1.out w hSw; go_simp; try (with_reducible rfl))
      simp only [Act.put, List.setIfInBounds_toArray, List.set_cons_zero, List.set_cons_succ]
      refine wpAnyH_ready (rs := [7]) (by kernel_rfl) (by simp) ?_
      refine AllReadyH.cons (by (simp only [List.getElem?_toArray, List.getElem?_cons_succ, List.getElem?_cons_zero]; rfl)) (fun K hK => ?_) AllReadyH.nil
      go_simp
      go_at_call 73; refine (HES.out _).mono ?_; rintro e w6 ⟨rfl, hb6⟩
      refine hK.out _ _ (by (try dsimp only); exact (hb6.block KB (Array.getElem?_eq_some_iff.1 hHeld).1).trans hHeld) (fun hHeld => ?_)
      clear hK K
      try simp only [Act.put, List.setIfInBounds_toArray, List.set_cons_zero, List.set_cons_succ]
      have hD6 := hD.trans (hb6.mono hD.size)
      clear hb6 hD
      refine wpAnyH_take (i := 8) (v := ?_) (by (simp only [List.getElem?_toArray, List.getElem?_cons_succ, List.getElem?_cons_zero]; rfl)) (by kernel_rfl) (by kernel_rfl) (by kernel_rfl) (by intro _ _ _ h; exact h) (Or.inl ⟨by rfl, ?_⟩) (by assumption) ?_
      rotate_left
      · (intro w hSw; (try dsimp only at hSw); go_simp; first | (with_reducible rfl) | (rw [if_neg (by omega)]; try (with_reducible rfl)))
      simp only [Act.put, List.setIfInBounds_toArray, List.set_cons_zero, List.set_cons_succ]
      refine wpAnyH_take (i := 9) (v := ?_) (by (simp only [List.getElem?_toArray, List.getElem?_cons_succ, List.getElem?_cons_zero]; rfl)) (by kernel_rfl) (by kernel_rfl) (by kernel_rfl) (by intro _ _ _ h; exact h) (Or.inl ⟨by rfl, ?_⟩) (by assumption) ?_
      rotate_left
      · (intro w hSw; (try dsimp only at hSw); go_simp; first | (with_reducible rfl) | (rw [if_neg (by omega)]; try (with_reducible rfl)))
      simp only [Act.put, List.setIfInBounds_toArray, List.set_cons_zero, List.set_cons_succ]
      have HA6 := Lib.hid hD6
      refine wpAnyH_ready (rs := [10]) (by kernel_rfl) (by simp) ?_
      refine AllReadyH.cons (by (simp only [List.getElem?_toArray, List.getElem?_cons_succ, List.getElem?_cons_zero]; rfl)) (fun K hK => ?_) AllReadyH.nil
      go_simp
      rw [HCAT.out, ← HAT.out]; go_at_call 72; refine (HWW.out _ HA6.out).mono ?_; rintro e w7 ⟨rfl, hbd7, hb7, hok7⟩
      refine hK.out _ _ (by (try dsimp only); exact hok7 _ _ hHeld (by simp only [ne_eq, Option.some.injEq]; exact HKB.out) (fun c fz h => by cases h)) (fun hHeld => ?_)
      clear hK K
      try simp only [Act.put, List.setIfInBounds_toArray, List.set_cons_zero, List.set_cons_succ]
      refine wpAnyH_done (by kernel_rfl) ?_ _
      have HB6 := Lib.hid (HBWB.out.trans ((hD6.mono HSB.out).trans hb7))
      have HBD6 := Lib.hid hbd7
      clear hHeld hanI heI hD6 hb7 hbd7 hok7
      go_wp2
      go_roundw
      case rel => exact ⟨q + 1, by omega, by go_num, by rw [at_snoc L q _ HX.out, ← List.append_assoc]; exact HBD6.out, HB6.out⟩
      case measure => simp [intOf]; omega
    · have hle : (L.length : Int) ≤ q := by omega
      have hta : L.take q = L := List.take_of_length_le (by omega)
      have HTA := Lib.hid hta
      have HWE := Lib.hid (buk_writeString B b (acc ++ 60 :: n ++ (L.take q).flatMap atP) (str E) wr HBDR.out (by rw [size_str, hta]; have h1 := HSZ.out; simp only [tagP, List.length_cons, List.length_append] at h1 ⊢; omega) HBRS.out)
      clear hta hBr
      go_wp2_with fail
      refine HWE.out.mono ?_
      rintro e w4 ⟨rfl, hbd4, hb4, _⟩
      have HBD4 := Lib.hid hbd4
      have HB4 := Lib.hid (HBR.out.trans hb4)
      clear hbd4 hb4
      go_wp2
      go_end0
      refine ⟨rfl, ?_, HB4.out⟩
      have := HBD4.out
      rw [HTA.out, toList_str] at this
      simpa [tagP] using this
end
/-! Back2 -/
section

/-- t, with its end behind it, is read as t -/
def BT (back t : List UInt8) : Prop := ∀ acc R, betM back acc (t ++ (back ++ R)) = .ok (acc ++ t) R
theorem bet_front {back acc R : List UInt8} (h : back ≠ []) : betM back acc (back ++ R) = .ok acc R := by
  cases back with
  | nil => exact absurd rfl h
  | cons b back =>
    have hp : (b :: back).isPrefixOf (b :: (back ++ R)) = true := List.isPrefixOf_iff_prefix.2 ⟨R, rfl⟩
    rw [List.cons_append, betM, if_pos hp]
    simp
theorem bet_inv {back : List UInt8} (hb : back ≠ []) : ∀ (r acc : List UInt8) {v s : List UInt8}, betM back acc r = .ok v s → ∃ t, v = acc ++ t ∧ r = t ++ (back ++ s) ∧ BT back t ∧ ∀ c ∈ t, tx c = true
  | [], acc, v, s, h => by
    unfold betM at h
    split at h
    · next hp =>
      have := (List.isPrefixOf_iff_prefix.1 hp).length_le
      exact absurd (List.eq_nil_of_length_eq_zero (by simpa using this)) hb
    · simp at h
  | c :: r, acc, v, s, h => by
    unfold betM at h
    split at h
    · next hp =>
      cases h
      obtain ⟨t, ht⟩ := List.isPrefixOf_iff_prefix.1 hp
      refine ⟨[], by simp, ?_, fun acc R => by simpa using bet_front hb, by simp⟩
      rw [← ht]; simp
    · next hp =>
      split at h
      · next htx =>
        obtain ⟨t, h1, h2, h3, h4⟩ := bet_inv hb r _ h
        refine ⟨c :: t, by rw [h1]; simp, by rw [h2]; rfl, fun acc' R => ?_, fun d hd => ?_⟩
        · have hno : ¬ back.isPrefixOf (c :: (t ++ (back ++ R))) = true := by
            intro hq
            apply hp
            rw [h2]
            have hl : back.length ≤ (c :: (t ++ back)).length := by simp; omega
            have e0 : ∀ z, (c :: (t ++ (back ++ z))).take back.length = (c :: (t ++ back)).take back.length := fun z => by
              rw [show c :: (t ++ (back ++ z)) = (c :: (t ++ back)) ++ z by simp, List.take_append_of_le_length hl]
            rw [pre_take ((e0 s).trans (e0 R).symm) (Nat.le_refl _)]
            exact hq
          show betM back acc' (c :: (t ++ (back ++ R))) = _
          rw [bet_step hno, if_pos htx, h3]
          simp
        · rcases List.mem_cons.1 hd with hd | hd
          · rw [hd]; exact htx
          · exact h4 d hd
      · simp at h
theorem tx_of {n : Int} (h1 : 32 ≤ n) (h2 : n ≤ 255) : tx (UInt8.ofNat n.toNat) = true := by
  unfold tx isText
  have : (UInt8.ofNat n.toNat).toNat = n.toNat := by
    rw [UInt8.toNat_ofNat']
    exact Nat.mod_eq_of_lt (by omega)
  rw [this]
  simp; omega
theorem tx_nums {xs : List Int} (h : ∀ n ∈ xs, 32 ≤ n ∧ n ≤ 255) : ∀ c ∈ (strOfNums xs).data.toList, tx c = true := by
  intro c hc
  unfold strOfNums at hc
  simp only [List.mem_map] at hc
  obtain ⟨n, hn, rfl⟩ := hc
  exact tx_of (h n hn).1 (h n hn).2
theorem tx_letB (n : Int) : ∀ c ∈ (letB n).data.toList, tx c = true := by
  cases ho : letOk n with
  | false => rw [letB_no ho]; simp
  | true =>
    have hr : (n = 9 ∨ n = 10 ∨ n = 13) ∨ 32 ≤ n ∧ n ≤ 1114111 := by simp [letOk] at ho; omega
    by_cases h128 : n < 128
    · rw [← enc1 ho h128]
      rcases hr with h | ⟨h1, _⟩
      · rcases h with rfl | rfl | rfl <;> decide
      · exact tx_nums (by simp; omega)
    · by_cases h2048 : n < 2048
      · rw [← enc2 ho (by omega) h2048]; exact tx_nums (by simp; omega)
      · by_cases h65536 : n < 65536
        · rw [← enc3 ho (by omega) h65536]; exact tx_nums (by simp; omega)
        · rw [← enc4 ho (by omega)]; exact tx_nums (by simp; omega)
theorem fin_ok {b : Int} {l : List UInt8} {f j n : Nat} {x : ByteArray} (h : finS b l f j = (x, n, 0)) : (∃ k, x = letB k) ∧ f + 2 ≤ n := by
  unfold finS at h
  split at h
  · simp at h
  · split at h
    · simp at h
    · next hj =>
      split at h
      · simp only [Prod.mk.injEq, and_true] at h
        refine ⟨⟨_, h.1.symm⟩, ?_⟩
        have : j ≠ 0 := fun e => hj (.inl e)
        omega
      · simp at h
theorem refS_ok {l : List UInt8} {x : ByteArray} {n : Nat} (h : refS l = (x, n, 0)) : (∀ c ∈ x.data.toList, tx c = true) ∧ 4 ≤ n := by
  unfold refS at h
  split at h
  · obtain ⟨⟨k, rfl⟩, h2⟩ := fin_ok h
    exact ⟨tx_letB k, by omega⟩
  · split at h
    · obtain ⟨⟨k, rfl⟩, h2⟩ := fin_ok h
      exact ⟨tx_letB k, by omega⟩
    · split at h
      · next w hw =>
        simp only [Prod.mk.injEq, and_true] at h
        obtain ⟨rfl, rfl⟩ := h
        have h2 := List.mem_of_find?_eq_some hw
        simp only [words, List.mem_cons, List.not_mem_nil, or_false] at h2
        rcases h2 with rfl | rfl | rfl | rfl | rfl <;> exact ⟨by decide, by decide⟩
      · split at h <;> simp at h
theorem let_inv (stop : UInt8) (opn : Bool) : ∀ (f : Nat) (acc r : List UInt8) {v s : List UInt8}, letM stop opn f acc r = .ok v s → (∀ c ∈ acc, tx c = true) → (∀ c ∈ v, tx c = true) ∧ v.length + s.length ≤ acc.length + r.length
  | 0, acc, r, v, s, h, ha => by rw [letM] at h; cases h; exact ⟨ha, Nat.le_refl _⟩
  | f + 1, acc, [], v, s, h, ha => by
    rw [letM] at h
    split at h
    · cases h; exact ⟨ha, Nat.le_refl _⟩
    · simp at h
  | f + 1, acc, c :: r, v, s, h, ha => by
    by_cases hc : c = stop
    · rw [letM, if_pos hc] at h; cases h; exact ⟨ha, Nat.le_refl _⟩
    · by_cases h38 : c = 38
      · obtain ⟨⟨x, n, y⟩, hxy⟩ : ∃ z, refS (c :: r) = z := ⟨_, rfl⟩
        rw [let_ref hc h38 hxy] at h
        split at h
        · next hy =>
          subst hy
          have h1 := refS_ok hxy
          have h2 := refS_small hxy
          have ih := let_inv stop opn f _ _ h (fun d hd => by
            rcases List.mem_append.1 hd with hd | hd
            · exact ha d hd
            · exact h1.1 d hd)
          refine ⟨ih.1, ?_⟩
          have h3 : x.data.toList.length = x.size := by simp
          have h4 := ih.2
          simp only [List.length_append, List.length_drop, List.length_cons] at h4 h2 ⊢
          omega
        · simp at h
      · rw [letM, if_neg hc, if_neg h38] at h
        split at h
        · simp at h
        · next h60 =>
          have ht : tx c = true := by
            simp only [Bool.or_eq_true, not_or, Bool.not_eq_true'] at h60
            simpa using h60.2
          have ih := let_inv stop opn f _ _ h (fun d hd => by
            rcases List.mem_append.1 hd with hd | hd
            · exact ha d hd
            · simp at hd; rw [hd]; exact ht)
          refine ⟨ih.1, ?_⟩
          have h4 := ih.2
          simp only [List.length_append, List.length_cons, List.length_nil] at h4 ⊢
          omega
theorem name_inv {e : Int} {r n s : List UInt8} (h : nameM e r = .ok n s) : isN n ∧ n.length + s.length = r.length := by
  unfold nameM at h
  split at h
  · simp at h
  · split at h
    · simp at h
    · next h0 =>
      simp only [Rs.ok.injEq] at h
      obtain ⟨rfl, rfl⟩ := h
      have hle := nameL_le r
      obtain ⟨i1, i2, i3⟩ := name_is (l := r) rfl (show 1 ≤ nameL r by omega)
      have hlen : (r.take (nameL r)).length = nameL r := by rw [List.length_take]; omega
      refine ⟨⟨fun he => by rw [he] at hlen; simp at hlen; omega, ?_⟩, by rw [hlen, List.length_drop]; omega⟩
      rw [hlen]
      refine name_one (nameL_is _) (.inr ⟨by omega, by rw [size_str]; omega, ?_, fun i h1 h2 => ?_, .inl (by rw [size_str, hlen])⟩)
      · obtain ⟨a, ha⟩ : ∃ a, r[0]? = some a := ⟨_, List.getElem?_eq_getElem (by omega)⟩
        have : (r.take (nameL r))[0]? = some a := by rw [List.getElem?_take, if_pos (by omega)]; exact ha
        rw [bt_str this]; exact i1 a ha
      · obtain ⟨a, ha⟩ : ∃ a, r[i]? = some a := ⟨_, List.getElem?_eq_getElem (by omega)⟩
        have : (r.take (nameL r))[i]? = some a := by rw [List.getElem?_take, if_pos (by omega)]; exact ha
        rw [bt_str this]; exact i2 i a h1 h2 ha
theorem must_inv {c : UInt8} {r s : List UInt8} {u : Unit} (h : mustM c r = .ok u s) : s.length + 1 = r.length := by
  cases r with
  | nil => simp [mustM] at h
  | cons d r =>
    rw [mustM] at h
    split at h
    · cases h; rfl
    · simp at h
theorem attr_inv {ats : List At2} {r s : List UInt8} {p : At2} (h : attrM ats r = .ok p s) : okA p ∧ (∀ a ∈ ats, a.1 ≠ p.1) ∧ p.1.length + p.2.length + 3 + s.length ≤ r.length := by
  unfold attrM at h
  obtain ⟨n, r1, h1, h⟩ := bind_ok h
  have hn := name_inv h1
  split at h
  · simp at h
  · next hd =>
    obtain ⟨u, r3, h3, h⟩ := bind_ok h
    have hm := must_inv h3
    have l1 := blanks_len r1
    have l2 := blanks_len r3
    split at h
    · simp at h
    · next q r4 hb =>
      rw [hb] at l2
      split at h
      · obtain ⟨v, r5, h5, h⟩ := bind_ok h
        have hv := let_inv _ _ _ _ _ h5 (by simp)
        obtain ⟨r6, hr6⟩ := let_ok _ h5 (Nat.lt_succ_self _)
        cases h
        refine ⟨⟨hn.1, hv.1⟩, fun a ha he => ?_, ?_⟩
        · apply hd
          exact List.any_eq_true.2 ⟨a, ha, by simpa using he⟩
        · have h6 := hv.2
          rw [hr6] at h6 ⊢
          simp only [List.length_cons, List.drop_succ_cons, List.drop_zero, List.length_nil] at *
          omega
      · simp at h
theorem atP_sz (p : At2) : (atP p).length ≤ 4 + p.1.length + 6 * p.2.length := by
  have := escS_len true p.2
  simp only [atP, List.length_cons, List.length_append, List.length_nil]
  omega
theorem attrs_inv : ∀ (f : Nat) (ats : List At2) (r : List UInt8) {a : List At2} {s : List UInt8}, attrsM f ats r = .ok a s → (∀ p ∈ ats, okA p) → (ats.map (·.1)).Nodup →
    (∀ p ∈ a, okA p) ∧ (a.map (·.1)).Nodup ∧ (a.flatMap atP).length + 6 * s.length ≤ (ats.flatMap atP).length + 6 * r.length
  | 0, ats, r, a, s, h, h1, h2 => by rw [attrsM] at h; cases h; exact ⟨h1, h2, Nat.le_refl _⟩
  | f + 1, ats, r, a, s, h, h1, h2 => by
    rw [attrsM] at h
    have hb := blanks_len r
    split at h
    · cases h; exact ⟨h1, h2, Nat.le_refl _⟩
    · next hne =>
      have hlt : (blanksM r).length < r.length := by
        rcases Nat.lt_or_ge (blanksM r).length r.length with h9 | h9
        · exact h9
        · exact absurd ((blanks_left r).eq_of_length (by omega)) hne
      split at h
      · simp at h
      · next c r1 heq =>
        rw [heq] at hlt
        split at h
        · cases h; exact ⟨h1, h2, by simp only [List.length_cons] at *; omega⟩
        · obtain ⟨p, r3, h3, h⟩ := bind_ok h
          obtain ⟨i1, i2, i3⟩ := attr_inv h3
          have ih := attrs_inv f _ _ h (fun q hq => by
            rcases List.mem_append.1 hq with hq | hq
            · exact h1 q hq
            · rw [List.mem_singleton] at hq; rw [hq]; exact i1) (by
            rw [List.map_append, List.nodup_append]
            refine ⟨h2, by simp, fun x hx y hy => ?_⟩
            obtain ⟨q, hq, rfl⟩ := List.mem_map.1 hx
            simp at hy
            rw [hy]
            exact i2 q hq)
          refine ⟨ih.1, ih.2.1, ?_⟩
          have h5 := ih.2.2
          have h6 := atP_sz p
          simp only [List.flatMap_append, List.flatMap_cons, List.flatMap_nil, List.length_append, List.append_nil, List.length_cons] at *
          omega
end
/-! Back2b -/
section
/-- a token as it is cut; b: nothing is ahead of it -/
def Gd (b : Bool) (k : Int) (n : List UInt8) (ats : List At2) (t : List UInt8) : Prop :=
  (k = 4 ∧ n = [] ∧ ats = [] ∧ ∀ c ∈ t, tx c = true) ∨ (k = 5 ∧ n = [] ∧ ats = [] ∧ BT noteB t) ∨
  (k = 6 ∧ n = [] ∧ ats = [] ∧ BT headB t ∧ (∀ c, (t ++ [63]).head? = some c → (bl c || c == 63) = true) ∧ b = true) ∨ (k = 3 ∧ isN n ∧ ats = [] ∧ t = []) ∨
  ((k = 1 ∨ k = 2) ∧ isN n ∧ (∀ p ∈ ats, okA p) ∧ (ats.map (·.1)).Nodup ∧ t = [])
theorem pref_len {p r : List UInt8} (h : p.isPrefixOf r = true) : p.length + (r.drop p.length).length = r.length := by
  have := (List.isPrefixOf_iff_prefix.1 h).length_le
  rw [List.length_drop]; omega
theorem piece_gd {o : Nat} {r s : List UInt8} {x : Tk} (h : pieceM o r = .ok x s) : Gd (o == 0) x.k x.n x.ats x.t ∧ (prT x.k x.n x.ats x.t).length + 6 * s.length ≤ 6 * r.length := by
  cases r with
  | nil => simp [pieceM] at h
  | cons c r1 =>
    rw [pieceM] at h
    split at h
    · next hc =>
      obtain ⟨t, r3, h1, h⟩ := bind_ok h
      cases h
      have hv := let_inv _ _ _ _ _ h1 (by simp)
      refine ⟨.inl ⟨rfl, rfl, rfl, hv.1⟩, ?_⟩
      have h2 := hv.2
      have h3 := escS_len false t
      show (escS false t).length + 6 * _ ≤ _
      simp only [List.length_nil] at h2
      omega
    · next hc =>
      have hc : c = 60 := by simpa using hc
      subst hc
      split at h
      · next hn =>
        obtain ⟨t, r3, h1, h⟩ := bind_ok h
        cases h
        obtain ⟨t', g1, g2, g3, _⟩ := bet_inv (by decide) _ _ h1
        obtain rfl : t = t' := by simpa using g1
        refine ⟨.inr (.inl ⟨rfl, rfl, rfl, g3⟩), ?_⟩
        have hp : 4 + ((60 :: r1).drop 4).length = (60 :: r1).length := pref_len hn
        have hq := congrArg List.length g2
        show (60 :: 33 :: 45 :: 45 :: (t ++ [45, 45, 62])).length + 6 * _ ≤ _
        simp only [noteB, List.length_append, List.length_cons, List.length_nil, Nat.zero_add] at hp hq ⊢
        omega
      · split at h
        · next hn =>
          obtain ⟨t, r3, h1, h⟩ := bind_ok h
          cases h
          obtain ⟨t', g1, g2, g3, g4⟩ := bet_inv (by decide) _ _ h1
          obtain rfl : t = t' := by simpa using g1
          refine ⟨.inl ⟨rfl, rfl, rfl, g4⟩, ?_⟩
          have hp : 9 + ((60 :: r1).drop 9).length = (60 :: r1).length := pref_len hn
          have hq := congrArg List.length g2
          have h3 := escS_len false t
          show (escS false t).length + 6 * _ ≤ _
          simp only [cdB, List.length_append, List.length_cons, List.length_nil, Nat.zero_add] at hp hq ⊢
          omega
        · split at h
          · next hn =>
            obtain ⟨t, r3, h1, h⟩ := bind_ok h
            cases h
            obtain ⟨t', g1, g2, g3, g4⟩ := bet_inv (by decide) _ _ h1
            obtain rfl : t = t' := by simpa using g1
            simp only [headM, Bool.and_eq_true] at hn
            obtain ⟨⟨n1, n2⟩, n3⟩ := hn
            refine ⟨.inr (.inr (.inl ⟨rfl, rfl, rfl, g3, fun c hc => ?_, n1⟩)), ?_⟩
            · have e5 : (60 :: r1)[5]? = ((60 :: r1).drop 5)[0]? := by rw [List.getElem?_drop]
              rw [e5, g2] at n3
              have e6 : (t ++ (headB ++ s))[0]? = some c := by
                cases t with
                | nil => simpa [headB] using hc
                | cons d t => simpa using hc
              rw [e6] at n3
              exact n3
            · have hp : 5 + ((60 :: r1).drop 5).length = (60 :: r1).length := pref_len n2
              have hq := congrArg List.length g2
              show (60 :: 63 :: 120 :: 109 :: 108 :: (t ++ [63, 62])).length + 6 * _ ≤ _
              simp only [headB, List.length_append, List.length_cons, List.length_nil, Nat.zero_add] at hp hq ⊢
              omega
          · split at h
            · next h47 =>
              obtain ⟨n, r3, h1, h⟩ := bind_ok h
              cases h
              unfold closeM at h1
              obtain ⟨n', r4, h2, h1⟩ := bind_ok h1
              have hn := name_inv h2
              obtain ⟨u, r5, h3, h1⟩ := bind_ok h1
              have hm := must_inv h3
              cases h1
              refine ⟨.inr (.inr (.inr (.inl ⟨rfl, hn.1, rfl, rfl⟩))), ?_⟩
              have l1 := blanks_len r4
              have l2 := hn.2
              have l3 : 1 ≤ r1.length := by cases r1 with
                | nil => simp at h47
                | cons d r1 => simp
              show (60 :: 47 :: (n ++ [62])).length + 6 * _ ≤ _
              simp only [List.length_append, List.length_cons, List.length_nil, List.length_drop] at l2 ⊢
              omega
            · obtain ⟨x, r3, h1, h⟩ := bind_ok h
              cases h
              rw [openM_eq] at h1
              obtain ⟨n, r4, h2, h1⟩ := bind_ok h1
              have hn := name_inv h2
              obtain ⟨ats, r5, h3, h1⟩ := bind_ok h1
              have ha := attrs_inv _ _ _ h3 (by simp) (by simp)
              have l3 := ha.2.2
              have l2 := hn.2
              unfold endM at h1
              split at h1
              · simp at h1
              · next d r6 =>
                split at h1
                · obtain ⟨u, r7, h4, h1⟩ := bind_ok h1
                  have hm := must_inv h4
                  cases h1
                  refine ⟨.inr (.inr (.inr (.inr ⟨.inr rfl, hn.1, ha.1, ha.2.1, rfl⟩))), ?_⟩
                  show (tagP n ats ++ [47, 62]).length + 6 * _ ≤ _
                  simp only [tagP, List.length_append, List.length_cons, List.length_nil, List.flatMap_nil] at l3 ⊢
                  omega
                · obtain ⟨u, r7, h4, h1⟩ := bind_ok h1
                  have hm := must_inv h4
                  cases h1
                  refine ⟨.inr (.inr (.inr (.inr ⟨.inl rfl, hn.1, ha.1, ha.2.1, rfl⟩))), ?_⟩
                  show (tagP n ats ++ [62]).length + 6 * _ ≤ _
                  simp only [tagP, List.length_append, List.length_cons, List.length_nil, List.flatMap_nil] at l3 hm ⊢
                  omega
/-- every token is good, and all together are at most six times as long -/
theorem chain_gd {l : List UInt8} : ∀ (ts : List Tk) {r : List UInt8}, Chain l r ts → r.length ≤ l.length →
    (prM (ts.map (Tk.mem l))).length ≤ 6 * r.length ∧ ∀ i x, ts[i]? = some x → Gd (decide (r.length = l.length) && i == 0) x.k x.n x.ats x.t
  | [], r, _, _ => ⟨by simp [prM], fun i x h => by simp at h⟩
  | t :: ts, r, ⟨c, r1, r2, hr, hp, hc⟩, hl => by
    have hg := piece_gd hp
    have h2 : r2.length < r.length := by
      subst hr
      have := piece_len hp
      simp; omega
    have ih := chain_gd ts hc (by omega)
    refine ⟨?_, fun i x hx => ?_⟩
    · have e : prM ((t :: ts).map (Tk.mem l)) = prT t.k t.n t.ats t.t ++ prM (ts.map (Tk.mem l)) := by simp [prM, Tk.mem]
      rw [e, List.length_append]
      have := ih.1
      have := hg.2
      omega
    · cases i with
      | zero =>
        simp only [List.getElem?_cons_zero, Option.some.injEq] at hx
        subst hx
        have e : (decide (r.length = l.length) && (0 : Nat) == 0) = (l.length - r.length == 0) := by
          by_cases h : r.length = l.length
          · simp [h]
          · simp [h]; omega
        rw [e]; exact hg.1
      | succ i =>
        have := ih.2 i x (by simpa using hx)
        have e : (decide (r2.length = l.length) && i == 0) = false := by simp; omega
        rw [e] at this
        simpa using this
/-! reading back -/
theorem let_esc2 (s R : List UInt8) (f : Nat) (hf : s.length < f) (h : ∀ c ∈ s, tx c = true) (hR : R = [] ∨ ∃ R', R = 60 :: R') : letM 60 true f [] (escS false s ++ R) = .ok s R := by
  have := let_map (stop := 60) (opn := true) (e := esc1 false) (by decide) s f [] R (by omega) (fun c hc => okE_esc (h c hc))
  unfold escS
  rw [this]
  obtain ⟨g, hg⟩ : ∃ g, f - s.length = g + 1 := ⟨f - s.length - 1, by omega⟩
  rw [hg]
  rcases hR with rfl | ⟨R', rfl⟩
  · rw [letM]; simp
  · rw [let_stop]; simp
theorem tagP_eq (n : List UInt8) (ats : List At2) : tagP n ats = tagT n (ats.map fun p => (false, p)) := by
  unfold tagP tagT
  rw [List.flatMap_map]
  rfl
theorem open_back {n : List UInt8} {bs : List (Bool × At2)} (hn : isN n) (hok : ∀ p ∈ bs, okA p.2) (hnd : (bs.map (fun p => p.2.1)).Nodup) (tail R : List UInt8) (k : Int) (htk : (tail = [62] ∧ k = 1) ∨ (tail = [47, 62] ∧ k = 2)) (o : Nat) :
    pieceM o (tagT n bs ++ tail ++ R) = .ok ⟨k, n, bs.map (·.2), [], o⟩ R := by
  have hth : ∀ c, (tail ++ R).head? = some c → isName (c.toNat : Int) = false := by
    rcases htk with ⟨rfl, _⟩ | ⟨rfl, _⟩ <;> (intro c hc; simp at hc; subst hc; decide)
  obtain ⟨f1, f2, f3, f4⟩ := first_60 hn (bs.flatMap pcA ++ (tail ++ R))
  have f5 : headM (o == 0) (60 :: (n ++ (bs.flatMap pcA ++ (tail ++ R)))) = false := by
    cases h : (o == 0)
    · rfl
    · exact f3
  have e0 : tagT n bs ++ tail ++ R = 60 :: (n ++ (bs.flatMap pcA ++ (tail ++ R))) := by simp [tagT]
  rw [e0, pieceM, if_neg (by decide), if_neg (by rw [f1]; decide), if_neg (by rw [f2]; decide), if_neg (by rw [f5]; decide), if_neg f4, openM, nameM_app hn (head_pc hth)]
  show (((attrsM ((bs.flatMap pcA ++ (tail ++ R)).length + 1) [] (bs.flatMap pcA ++ (tail ++ R))).bind _).bind _ : Rs Tk) = _
  have hbl : bs.length ≤ (bs.flatMap pcA).length := by
    have : ∀ bs : List (Bool × At2), bs.length ≤ (bs.flatMap pcA).length := by
      intro bs
      induction bs with
      | nil => simp
      | cons p bs ih =>
        obtain ⟨b, n, v⟩ := p
        cases b <;> (simp only [List.flatMap_cons, List.length_append, List.length_cons, pcA] at ih ⊢; omega)
    exact this bs
  rw [attrs_read bs _ [] (by rw [List.length_append]; omega) hok (by simp) hnd, List.nil_append]
  obtain ⟨g, hg⟩ : ∃ g, (bs.flatMap pcA ++ (tail ++ R)).length + 1 - bs.length = g + 1 := ⟨(bs.flatMap pcA ++ (tail ++ R)).length - bs.length, by rw [List.length_append]; omega⟩
  rw [hg]
  rcases htk with ⟨rfl, rfl⟩ | ⟨rfl, rfl⟩
  · have : attrsM (g + 1) (bs.map (·.2)) ([62] ++ R) = .ok (bs.map (·.2)) ([62] ++ R) := by
      show attrsM (g + 1) _ (62 :: R) = .ok _ (62 :: R)
      rw [attrsM, if_pos (blanks_no (c := 62) (r := R) (by decide))]
    rw [this]
    rfl
  · have : attrsM (g + 1) (bs.map (·.2)) ([47, 62] ++ R) = .ok (bs.map (·.2)) ([47, 62] ++ R) := by
      show attrsM (g + 1) _ (47 :: 62 :: R) = .ok _ (47 :: 62 :: R)
      rw [attrsM, if_pos (blanks_no (c := 47) (r := 62 :: R) (by decide))]
    rw [this]
    rfl
theorem head_of {t R : List UInt8} (h : ∀ c, (t ++ [63]).head? = some c → (bl c || c == 63) = true) : headM true (60 :: 63 :: 120 :: 109 :: 108 :: (t ++ (63 :: R))) = true := by
  unfold headM
  have e6 : ∃ c, (60 :: 63 :: 120 :: 109 :: 108 :: (t ++ (63 :: R)))[5]? = some c ∧ (bl c || c == 63) = true := by
    cases t with
    | nil => exact ⟨63, rfl, by decide⟩
    | cons d t => exact ⟨d, rfl, h d (by simp)⟩
  obtain ⟨c, hc, hb⟩ := e6
  rw [hc]
  simp [headF, List.isPrefixOf, hb]
theorem piece_back {b : Bool} {k : Int} {n t R : List UInt8} {ats : List At2} {o : Nat} (h : Gd b k n ats t) (ht : k = 4 → t ≠ []) (hR : k = 4 → R = [] ∨ ∃ R', R = 60 :: R') (hb : b = (o == 0)) :
    pieceM o (prT k n ats t ++ R) = .ok ⟨k, n, ats, t, o⟩ R := by
  rcases h with ⟨rfl, rfl, rfl, h⟩ | ⟨rfl, rfl, rfl, h⟩ | ⟨rfl, rfl, rfl, h, h2, rfl⟩ | ⟨rfl, h, rfl, rfl⟩ | ⟨hk, h, h2, h3, rfl⟩
  · show pieceM o (escS false t ++ R) = _
    cases t with
    | nil => exact absurd rfl (ht rfl)
    | cons c t =>
      cases hE : escS false (c :: t) with
      | nil => exact absurd (esc_nil.1 hE) (by simp)
      | cons d r =>
        have hd := esc_first hE
        have hl := let_esc2 (c :: t) R ((d :: (r ++ R)).length + 1) (by
          have h1 := esc_ge false (c :: t)
          rw [hE] at h1
          simp only [List.length_cons, List.length_append] at h1 ⊢
          omega) h (hR rfl)
        rw [hE] at hl
        rw [List.cons_append, pieceM, if_pos hd]
        rw [List.cons_append] at hl
        rw [hl]
        rfl
  · have e : prT 5 [] [] t ++ R = 60 :: 33 :: 45 :: 45 :: (t ++ (noteB ++ R)) := by simp [prT, noteB]
    rw [e, pieceM, if_neg (by decide), if_pos (by simp [noteF, List.isPrefixOf])]
    show (betM noteB [] (t ++ (noteB ++ R))).bind _ = _
    rw [h]
    rfl
  · have e : prT 6 [] [] t ++ R = 60 :: 63 :: 120 :: 109 :: 108 :: (t ++ (headB ++ R)) := by simp [prT, headB]
    rw [e, pieceM, if_neg (by decide), if_neg (by simp [noteF, List.isPrefixOf]), if_neg (by simp [cdF, List.isPrefixOf]), if_pos (by rw [← hb]; exact head_of h2)]
    show (betM headB [] (t ++ (headB ++ R))).bind _ = _
    rw [h]
    rfl
  · have e : prT 3 n [] [] ++ R = 60 :: 47 :: (n ++ (62 :: R)) := by simp [prT]
    have hh : headM (o == 0) (60 :: 47 :: (n ++ (62 :: R))) = false := by simp [headM, headF, List.isPrefixOf]
    rw [e, pieceM, if_neg (by decide), if_neg (by simp [noteF, List.isPrefixOf]), if_neg (by simp [cdF, List.isPrefixOf]), if_neg (by rw [hh]; decide), if_pos (show (47 :: (n ++ 62 :: R)).head? = some 47 from rfl)]
    show (closeM (n ++ (62 :: R))).bind _ = _
    rw [closeM, nameM_app h (by intro c hc; simp at hc; subst hc; decide)]
    have hm : mustM 62 (blanksM (62 :: R)) = .ok () R := by rw [blanks_no (by decide), mustM, if_pos rfl]
    show ((mustM 62 (blanksM (62 :: R))).bind fun _ r2 => Rs.ok n r2).bind (fun n r2 => Rs.ok (⟨3, n, [], [], o⟩ : Tk) r2) = _
    rw [hm]
    rfl
  · have hm : (ats.map fun p => (false, p)).map (·.2) = ats := by rw [List.map_map]; exact List.map_id ats
    have hm2 : (ats.map fun p => (false, p)).map (fun p => p.2.1) = ats.map (·.1) := by rw [List.map_map]; rfl
    have key := fun tail k htk => open_back (bs := ats.map fun p => (false, p)) h (fun p hp => by
      obtain ⟨q, hq, rfl⟩ := List.mem_map.1 hp
      exact h2 q hq) (by rw [hm2]; exact h3) tail R k htk o
    simp only [hm, ← tagP_eq] at key
    rcases hk with rfl | rfl
    · exact key [62] 1 (.inl ⟨rfl, rfl⟩)
    · exact key [47, 62] 2 (.inr ⟨rfl, rfl⟩)
/-- tokens that may be read back; b: nothing is ahead of them -/
def Nm (b : Bool) (M : List Tm) : Prop := ∀ (i : Nat) x, M[i]? = some x → Gd (b && i == 0) x.k x.n x.ats x.t ∧ (x.k = 4 → x.t ≠ []) ∧ ∀ y, M[i + 1]? = some y → ¬ (x.k = 4 ∧ y.k = 4)
theorem Nm.tail {b : Bool} {x : Tm} {M : List Tm} (h : Nm b (x :: M)) : Nm false M := fun i y hy => by
  have := h (i + 1) y (by simpa using hy)
  exact ⟨by simpa using this.1, this.2.1, fun z hz => this.2.2 z (by simpa using hz)⟩
theorem pr_60 {b : Bool} {k : Int} {n t : List UInt8} {ats : List At2} (h : Gd b k n ats t) (h4 : k ≠ 4) : ∃ r, prT k n ats t = 60 :: r := by
  rcases h with ⟨rfl, _⟩ | ⟨rfl, _⟩ | ⟨rfl, _⟩ | ⟨rfl, _⟩ | ⟨rfl | rfl, _⟩
  · exact absurd rfl h4
  all_goals exact ⟨_, rfl⟩
theorem pr_ne {b : Bool} {k : Int} {n t : List UInt8} {ats : List At2} (h : Gd b k n ats t) (h4 : k = 4 → t ≠ []) : prT k n ats t ≠ [] := by
  by_cases hk : k = 4
  · subst hk
    exact fun he => h4 rfl (esc_nil.1 he)
  · obtain ⟨r, hr⟩ := pr_60 h hk
    rw [hr]; simp
theorem go_back {lf : List UInt8} : ∀ (M : List Tm) (b : Bool) (f : Nat) (acc : List Tk), Nm b M → (prM M).length < f → (prM M).length ≤ lf.length → b = (lf.length - (prM M).length == 0) →
    ∃ ts, goM lf f acc (prM M) = .ok (acc ++ ts) [] ∧ ts.length = M.length ∧ ∀ (i : Nat) x y, ts[i]? = some x → M[i]? = some y → x.k = y.k ∧ x.n = y.n ∧ x.ats = y.ats ∧ x.t = y.t
  | [], b, f, acc, _, hf, _, _ => by
    obtain ⟨g, rfl⟩ : ∃ g, f = g + 1 := ⟨f - 1, by simp [prM] at hf; omega⟩
    refine ⟨[], ?_, rfl, fun i x y h => by simp at h⟩
    rw [show prM [] = [] from rfl, goM, if_pos rfl, List.append_nil]
  | x :: M, b, f, acc, hN, hf, hlf, hb => by
    have e : prM (x :: M) = prT x.k x.n x.ats x.t ++ prM M := rfl
    obtain ⟨h1, h2, h3⟩ := hN 0 x rfl
    have h1 : Gd b x.k x.n x.ats x.t := by simpa using h1
    have hne := pr_ne h1 h2
    have hlen : 1 ≤ (prT x.k x.n x.ats x.t).length := List.length_pos_iff.2 hne
    obtain ⟨g, rfl⟩ : ∃ g, f = g + 1 := ⟨f - 1, by omega⟩
    have hR : x.k = 4 → prM M = [] ∨ ∃ R', prM M = 60 :: R' := fun hk => by
      cases M with
      | nil => exact .inl rfl
      | cons y M =>
        obtain ⟨r, hr⟩ := pr_60 (hN 1 y rfl).1 (fun hy => h3 y rfl ⟨hk, hy⟩)
        exact .inr ⟨r ++ prM M, by show prT y.k y.n y.ats y.t ++ prM M = _; rw [hr]; rfl⟩
    have hp := piece_back (R := prM M) h1 h2 hR hb
    have eL : (prM (x :: M)).length = (prT x.k x.n x.ats x.t).length + (prM M).length := by rw [e, List.length_append]
    obtain ⟨ts, i1, i2, i3⟩ := go_back (lf := lf) M false g (acc ++ [⟨x.k, x.n, x.ats, x.t, lf.length - (prM (x :: M)).length⟩]) hN.tail (by omega) (by omega) (by
      have : lf.length - (prM M).length ≠ 0 := by omega
      simpa using this)
    refine ⟨⟨x.k, x.n, x.ats, x.t, lf.length - (prM (x :: M)).length⟩ :: ts, ?_, by simp [i2], fun i u v hu hv => ?_⟩
    · rw [goM, if_neg (by rw [e]; simp [hne])]
      rw [← e] at hp
      rw [hp]
      show goM lf g _ (prM M) = _
      rw [i1]; simp
    · cases i with
      | zero => simp at hu hv; subst hu; subst hv; exact ⟨rfl, rfl, rfl, rfl⟩
      | succ i => exact i3 i u v (by simpa using hu) (by simpa using hv)
theorem all_back {M : List Tm} (hN : Nm true M) (hl : (prM M).length ≤ 65536) :
    ∃ ts, allM (prM M) = .ok ts [] ∧ ts.length = M.length ∧ ∀ (i : Nat) x y, ts[i]? = some x → M[i]? = some y → x.k = y.k ∧ x.n = y.n ∧ x.ats = y.ats ∧ x.t = y.t := by
  obtain ⟨ts, h1, h2, h3⟩ := go_back (lf := prM M) M true ((prM M).length + 1) [] hN (Nat.lt_succ_self _) (Nat.le_refl _) (by simp)
  refine ⟨ts, ?_, h2, h3⟩
  unfold allM
  rw [if_neg (by omega), h1]
  simp
end
end
/-! Bk3 -/
section
mutual
/-- the tokens that a tree is printed by -/
def tkT : Tr → List Tm
  | .mk n ats ks t => if n = [] then [⟨4, [], [], t, 0, 0, 0⟩] else if ks = [] then [⟨2, n, ats, [], 0, 0, 0⟩] else ⟨1, n, ats, [], 0, 0, 0⟩ :: (tkL ks ++ [⟨3, n, [], [], 0, 0, 0⟩])
def tkL : List Tr → List Tm
  | [] => []
  | x :: l => tkT x ++ tkL l
end
theorem tkT_text {x : Tr} (h : x.n = []) : tkT x = [⟨4, [], [], x.t, 0, 0, 0⟩] := by
  obtain ⟨n, ats, ks, t⟩ := x
  have h : n = [] := h
  rw [tkT, if_pos h]; rfl
theorem tkT_empty {x : Tr} (h : x.n ≠ []) (hk : x.ks = []) : tkT x = [⟨2, x.n, x.ats, [], 0, 0, 0⟩] := by
  obtain ⟨n, ats, ks, t⟩ := x
  have h : n ≠ [] := h
  have hk : ks = [] := hk
  rw [tkT, if_neg h, if_pos hk]; rfl
theorem tkT_full {x : Tr} (h : x.n ≠ []) (hk : x.ks ≠ []) : tkT x = ⟨1, x.n, x.ats, [], 0, 0, 0⟩ :: (tkL x.ks ++ [⟨3, x.n, [], [], 0, 0, 0⟩]) := by
  obtain ⟨n, ats, ks, t⟩ := x
  have h : n ≠ [] := h
  have hk : ks ≠ [] := hk
  rw [tkT, if_neg h, if_neg hk]; rfl
theorem tkL_app : ∀ a b : List Tr, tkL (a ++ b) = tkL a ++ tkL b
  | [], b => by simp [tkL]
  | x :: a, b => by simp [tkL, tkL_app a b]
theorem tkL_snoc (l : List Tr) (k : Nat) (x : Tr) (h : l[k]? = some x) : tkL (l.take (k + 1)) = tkL (l.take k) ++ tkT x := by
  rw [take_snoc _ k x h, tkL_app]; simp [tkL]
theorem tkL_le (l : List Tr) (k : Nat) : (tkL (l.take k)).length ≤ (tkL l).length := by
  have := tkL_app (l.take k) (l.drop k)
  rw [List.take_append_drop] at this
  rw [this, List.length_append]; omega
/-! what the tokens are -/
def okT (x : Tm) : Prop := Gd false x.k x.n x.ats x.t ∧ (x.k = 4 → x.t ≠ [])
/-- no texts side by side; b: a text stands ahead -/
def nA : Bool → List Tm → Prop
  | _, [] => True
  | b, x :: l => ¬ (b = true ∧ x.k = 4) ∧ nA (decide (x.k = 4)) l
def lastT : Bool → List Tm → Bool
  | b, [] => b
  | _, x :: l => lastT (decide (x.k = 4)) l
theorem nA_app : ∀ (a b : List Tm) (z : Bool), nA z (a ++ b) ↔ nA z a ∧ nA (lastT z a) b
  | [], b, z => by simp [nA, lastT]
  | x :: a, b, z => by simp [nA, lastT, nA_app a b, and_assoc]
theorem lastT_app : ∀ (a b : List Tm) (z : Bool), lastT z (a ++ b) = lastT (lastT z a) b
  | [], b, z => rfl
  | x :: a, b, z => by simp [lastT, lastT_app a b]
theorem nm_is {n : List UInt8} (h : nmB n = true) : isN n := by
  simp only [nmB, Bool.and_eq_true, decide_eq_true_eq] at h
  exact h
theorem pl_is {t : List UInt8} (h : plB t = true) : ∀ c ∈ t, tx c = true := by
  intro c hc
  unfold plB at h
  exact List.all_eq_true.1 h c hc
theorem ats_is : ∀ (l pre : List At2), atsB pre l = true → (∀ p ∈ l, okA p) ∧ (l.map (·.1)).Nodup ∧ ∀ p ∈ l, ∀ q ∈ pre, q.1 ≠ p.1
  | [], pre, _ => ⟨by simp, by simp, by simp⟩
  | a :: l, pre, h => by
    rw [atsB] at h
    simp only [Bool.and_eq_true] at h
    obtain ⟨⟨⟨h1, h2⟩, h3⟩, h4⟩ := h
    obtain ⟨i1, i2, i3⟩ := ats_is l _ h4
    have h3' : ∀ q ∈ pre, q.1 ≠ a.1 := fun q hq he => by
      simp only [Bool.not_eq_true', List.any_eq_false] at h3
      exact h3 q hq (by rw [he]; simp)
    refine ⟨fun p hp => ?_, ?_, fun p hp q hq => ?_⟩
    · rcases List.mem_cons.1 hp with rfl | hp
      · exact ⟨nm_is h1, pl_is h2⟩
      · exact i1 p hp
    · rw [List.map_cons, List.nodup_cons]
      refine ⟨fun hm => ?_, i2⟩
      obtain ⟨p, hp, he⟩ := List.mem_map.1 hm
      exact i3 p hp a (by simp) he.symm
    · rcases List.mem_cons.1 hp with rfl | hp
      · exact h3' q hq
      · exact i3 p hp q (by simp [hq])
theorem right_parts {x : Tr} (h : x.rightB = true) : isN x.n ∧ x.t = [] ∧ atsB [] x.ats = true ∧ Tr.ksB false x.ks = true := by
  obtain ⟨n, ats, ks, t⟩ := x
  rw [Tr.rightB] at h
  simp only [Bool.and_eq_true, decide_eq_true_eq] at h
  exact ⟨nm_is h.1.1.1, h.1.1.2, h.1.2, h.2⟩
theorem ks_parts {b : Bool} {x : Tr} {l : List Tr} (h : Tr.ksB b (x :: l) = true) :
    ((x.n = [] ∧ x.ats = [] ∧ x.ks = [] ∧ x.t ≠ [] ∧ plB x.t = true ∧ b = false) ∨ (x.n ≠ [] ∧ x.rightB = true)) ∧ Tr.ksB (decide (x.n = [])) l = true := by
  rw [ksB_cons, Bool.and_eq_true] at h
  refine ⟨?_, h.2⟩
  have h1 := h.1
  split at h1
  · next hn =>
    simp only [Bool.and_eq_true, decide_eq_true_eq, Bool.not_eq_true'] at h1
    exact .inl ⟨hn, h1.1.1.1.1, h1.1.1.1.2, h1.1.1.2, h1.1.2, h1.2⟩
  · next hn => exact .inr ⟨hn, h1⟩
mutual
theorem okT_T : ∀ (x : Tr), x.rightB = true → (∀ y ∈ tkT x, okT y) ∧ (∀ b, nA b (tkT x)) ∧ ∀ b, lastT b (tkT x) = false
  | .mk n ats ks t, h => by
    obtain ⟨h1, h2, h3, h4⟩ := right_parts h
    dsimp only [Tr.n, Tr.t, Tr.ats, Tr.ks] at h1 h2 h3 h4
    obtain ⟨a1, a2, _⟩ := ats_is _ _ h3
    obtain ⟨k1, k2⟩ := okT_L ks false h4
    by_cases hk : ks = []
    · rw [tkT_empty (x := .mk n ats ks t) h1.1 hk]
      refine ⟨fun y hy => ?_, fun b => ⟨by simp, trivial⟩, fun b => rfl⟩
      obtain rfl := List.mem_singleton.1 hy
      exact ⟨.inr (.inr (.inr (.inr ⟨.inr rfl, h1, a1, a2, rfl⟩))), by simp⟩
    · rw [tkT_full (x := .mk n ats ks t) h1.1 hk]
      refine ⟨fun y hy => ?_, fun b => ⟨by simp, (nA_app _ _ _).2 ⟨k2, ⟨by simp, trivial⟩⟩⟩, fun b => ?_⟩
      · rcases List.mem_cons.1 hy with rfl | hy
        · exact ⟨.inr (.inr (.inr (.inr ⟨.inl rfl, h1, a1, a2, rfl⟩))), by simp⟩
        · rcases List.mem_append.1 hy with hy | hy
          · exact k1 y hy
          · obtain rfl := List.mem_singleton.1 hy
            exact ⟨.inr (.inr (.inr (.inl ⟨rfl, h1, rfl, rfl⟩))), by simp⟩
      · rw [lastT, lastT_app]; rfl
theorem okT_L : ∀ (l : List Tr) (b : Bool), Tr.ksB b l = true → (∀ y ∈ tkL l, okT y) ∧ nA b (tkL l)
  | [], b, _ => ⟨by simp [tkL], by simp [tkL, nA]⟩
  | x :: l, b, h => by
    obtain ⟨h1, h2⟩ := ks_parts h
    obtain ⟨i1, i2⟩ := okT_L l _ h2
    rw [tkL]
    rcases h1 with ⟨g1, g2, g3, g4, g5, g6⟩ | ⟨g1, g2⟩
    · rw [tkT_text g1]
      refine ⟨fun y hy => ?_, ?_⟩
      · rcases List.mem_append.1 hy with hy | hy
        · obtain rfl := List.mem_singleton.1 hy
          exact ⟨.inl ⟨rfl, rfl, rfl, pl_is g5⟩, fun _ => g4⟩
        · exact i1 y hy
      · rw [g1] at i2
        exact ⟨by simp [g6], i2⟩
    · obtain ⟨x1, x2, x3⟩ := okT_T x g2
      refine ⟨fun y hy => ?_, ?_⟩
      · rcases List.mem_append.1 hy with hy | hy
        · exact x1 y hy
        · exact i1 y hy
      · rw [decide_eq_false g1] at i2
        exact (nA_app _ _ _).2 ⟨x2 b, by rw [x3]; exact i2⟩
end
theorem Gd.weak {b : Bool} {k : Int} {n t : List UInt8} {ats : List At2} (h : Gd false k n ats t) : Gd b k n ats t := by
  rcases h with h | h | h | h | h
  · exact .inl h
  · exact .inr (.inl h)
  · exact absurd h.2.2.2.2.2 (by simp)
  · exact .inr (.inr (.inr (.inl h)))
  · exact .inr (.inr (.inr (.inr h)))
theorem nA_at : ∀ (M : List Tm) (b : Bool), nA b M → ∀ (i : Nat) x y, M[i]? = some x → M[i + 1]? = some y → ¬ (x.k = 4 ∧ y.k = 4)
  | [], b, _, i, x, y, h, _ => by simp at h
  | z :: M, b, h, 0, x, y, hx, hy => by
    simp only [List.getElem?_cons_zero, Option.some.injEq] at hx
    subst hx
    cases M with
    | nil => simp at hy
    | cons u M =>
      simp only [Nat.zero_add, List.getElem?_cons_succ, List.getElem?_cons_zero, Option.some.injEq] at hy
      subst hy
      intro hh
      exact h.2.1 ⟨by simp [hh.1], hh.2⟩
  | z :: M, b, h, i + 1, x, y, hx, hy => nA_at M _ h.2 i x y (by simpa using hx) (by simpa using hy)
theorem nm_of {M : List Tm} (h1 : ∀ y ∈ M, okT y) (h2 : nA false M) (b : Bool) : Nm b M := fun i x hx => by
  have hm := h1 x (List.mem_of_getElem? hx)
  exact ⟨hm.1.weak, hm.2, fun y hy => nA_at M _ h2 i x y hx hy⟩
/-! what is built of them -/
def Tm.tk (x : Tm) : Tk := ⟨x.k, x.n, x.ats, x.t, 0⟩
def foldG : Gs → List Tm → Option Gs
  | g, [] => some g
  | g, x :: l => match addG g x.tk with
    | .ok g' => foldG g' l
    | .bad _ => none
theorem foldG_app : ∀ (a b : List Tm) (g : Gs), foldG g (a ++ b) = (foldG g a).bind fun g' => foldG g' b
  | [], b, g => rfl
  | x :: a, b, g => by
    rw [List.cons_append, foldG, foldG]
    cases addG g x.tk with
    | ok g' => exact foldG_app a b g'
    | bad e => rfl
theorem grow_fold (n : Nat) : ∀ (ts : List Tk) (M : List Tm) (g g' : Gs), ts.length = M.length → (∀ (i : Nat) x y, ts[i]? = some x → M[i]? = some y → x.k = y.k ∧ x.n = y.n ∧ x.ats = y.ats ∧ x.t = y.t) →
    foldG g M = some g' → growM n g ts = growM n g' []
  | [], [], g, g', _, _, h => by cases h; rfl
  | [], y :: M, g, g', hl, _, _ => by simp at hl
  | x :: ts, [], g, g', hl, _, _ => by simp at hl
  | x :: ts, y :: M, g, g', hl, hs, h => by
    obtain ⟨e1, e2, e3, e4⟩ := hs 0 x y rfl rfl
    have he : addG g x = addG g y.tk := by unfold addG Tm.tk; rw [e1, e2, e3, e4]
    rw [foldG] at h
    conv => lhs; rw [growM, he]
    cases hg : addG g y.tk with
    | ok g1 =>
      rw [hg] at h
      exact grow_fold n ts M g1 g' (by simpa using hl) (fun i u v hu hv => hs (i + 1) u v (by simpa using hu) (by simpa using hv)) h
    | bad e => rw [hg] at h; cases h
theorem leave_cons (x u : Tr) (st : List Tr) (r : Option Tr) (c : Nat) : leaveG ⟨x :: u :: st, r, c⟩ = ⟨u.add x :: st, r, c⟩ := rfl
/-- the last kid is a text -/
def lastK (u : Tr) : Bool := match u.ks.getLast? with
  | some k => decide (k.n = [])
  | none => false
mutual
theorem fold_T : ∀ (x : Tr) (st : List Tr) (c : Nat), x.rightB = true → c + x.size ≤ 4096 → st.length + x.dep ≤ 64 → foldG ⟨st, none, c⟩ (tkT x) = some (leaveG ⟨x :: st, none, c + x.size⟩)
  | .mk n ats ks t, st, c, h, hc, hd => by
    obtain ⟨h1, h2, h3, h4⟩ := right_parts h
    dsimp only [Tr.n, Tr.t, Tr.ats, Tr.ks] at h1 h2 h3 h4
    subst h2
    simp only [Tr.size] at hc
    simp only [Tr.dep] at hd
    by_cases hk : ks = []
    · subst hk
      rw [tkT_empty (x := .mk n ats [] []) h1.1 rfl]
      simp only [Tr.sizes] at hc
      have : addG ⟨st, none, c⟩ (Tm.tk ⟨2, n, ats, [], 0, 0, 0⟩) = .ok (leaveG ⟨.mk n ats [] [] :: st, none, c + 1⟩) := by
        show (if (2 : Int) = 1 ∨ (2 : Int) = 2 then beginG ⟨st, none, c⟩ n ats 2 else _) = _
        rw [if_pos (.inr rfl), beginG]
        rw [if_neg (by simp), if_neg (by show ¬ (64 ≤ st.length ∨ 4096 ≤ c); omega), if_pos rfl]
      show (match addG ⟨st, none, c⟩ (Tm.tk ⟨2, n, ats, [], 0, 0, 0⟩) with | .ok g' => foldG g' [] | .bad _ => none) = _
      rw [this]
      rfl
    · rw [tkT_full (x := .mk n ats ks []) h1.1 hk]
      have e1 : addG ⟨st, none, c⟩ (Tm.tk ⟨1, n, ats, [], 0, 0, 0⟩) = .ok ⟨.mk n ats [] [] :: st, none, c + 1⟩ := by
        show (if (1 : Int) = 1 ∨ (1 : Int) = 2 then beginG ⟨st, none, c⟩ n ats 1 else _) = _
        rw [if_pos (.inl rfl), beginG]
        rw [if_neg (by simp), if_neg (by show ¬ (64 ≤ st.length ∨ 4096 ≤ c); omega), if_neg (by decide)]
      have e2 := fold_L ks (.mk n ats [] []) st (c + 1) h4 (by omega) (by omega)
      show (match addG ⟨st, none, c⟩ (Tm.tk ⟨1, n, ats, [], 0, 0, 0⟩) with | .ok g' => foldG g' (tkL ks ++ ([⟨3, n, [], [], 0, 0, 0⟩] : List Tm)) | .bad _ => none) = _
      rw [e1]
      show foldG _ _ = _
      rw [foldG_app, e2]
      have e3 : addG ⟨.mk n ats ([] ++ ks) [] :: st, none, c + 1 + Tr.sizes ks⟩ (Tm.tk ⟨3, n, [], [], 0, 0, 0⟩) = .ok (leaveG ⟨.mk n ats ([] ++ ks) [] :: st, none, c + 1 + Tr.sizes ks⟩) := by
        show (if (3 : Int) = 1 ∨ (3 : Int) = 2 then _ else if (3 : Int) = 3 then endG ⟨.mk n ats ([] ++ ks) [] :: st, none, c + 1 + Tr.sizes ks⟩ n else _) = _
        rw [if_neg (by decide), if_pos rfl, endG]
        show (if n = n then _ else _) = _
        rw [if_pos rfl]
      show (match addG ⟨.mk n ats ([] ++ ks) [] :: st, none, c + 1 + Tr.sizes ks⟩ (Tm.tk ⟨3, n, [], [], 0, 0, 0⟩) with | .ok g' => foldG g' [] | .bad _ => none) = _
      rw [e3]
      show some (leaveG ⟨.mk n ats ([] ++ ks) [] :: st, none, c + 1 + Tr.sizes ks⟩) = _
      rw [List.nil_append, Nat.add_assoc]
      rfl
theorem fold_L : ∀ (l : List Tr) (u : Tr) (st : List Tr) (c : Nat), Tr.ksB (lastK u) l = true → c + Tr.sizes l ≤ 4096 → st.length + 1 + Tr.deps l ≤ 64 → foldG ⟨u :: st, none, c⟩ (tkL l) = some ⟨.mk u.n u.ats (u.ks ++ l) u.t :: st, none, c + Tr.sizes l⟩
  | [], u, st, c, _, _, _ => by
    rw [tkL, foldG, List.append_nil, Tr.eta]; rfl
  | x :: l, u, st, c, h, hc, hd => by
    obtain ⟨h1, h2⟩ := ks_parts h
    rw [Tr.sizes] at hc
    rw [tkL, foldG_app]
    have hlk : ∀ y : Tr, lastK (u.add y) = decide (y.n = []) := fun y => by
      unfold lastK Tr.add
      show (match (u.ks ++ [y]).getLast? with | some k => decide (k.n = []) | none => false) = _
      rw [List.getLast?_append]; rfl
    have fin : ∀ y : Tr, (⟨.mk (u.add y).n (u.add y).ats ((u.add y).ks ++ l) (u.add y).t :: st, none, c + y.size + Tr.sizes l⟩ : Gs) = ⟨.mk u.n u.ats (u.ks ++ y :: l) u.t :: st, none, c + Tr.sizes (y :: l)⟩ := fun y => by
      rw [Tr.sizes, ← Nat.add_assoc]
      show (⟨.mk u.n u.ats (u.ks ++ [y] ++ l) u.t :: st, none, _⟩ : Gs) = _
      rw [List.append_assoc]; rfl
    rcases h1 with ⟨g1, g2, g3, g4, g5, g6⟩ | ⟨g1, g2⟩
    · obtain ⟨n, ats, ks, t⟩ := x
      dsimp only [Tr.n, Tr.t, Tr.ats, Tr.ks] at g1 g2 g3 g4 g5 h2 hd
      subst g1; subst g2; subst g3
      rw [Tr.deps, if_pos (show (Tr.mk [] [] [] t).n = [] from rfl)] at hd
      rw [tkT_text (x := .mk [] [] [] t) rfl]
      simp only [Tr.size, Tr.sizes] at hc
      have e : addG ⟨u :: st, none, c⟩ (Tm.tk ⟨4, [], [], t, 0, 0, 0⟩) = .ok ⟨u.add (.mk [] [] [] t) :: st, none, c + 1⟩ := by
        show (if (4 : Int) = 1 ∨ (4 : Int) = 2 then _ else if (4 : Int) = 3 then _ else if (4 : Int) = 4 then textG ⟨u :: st, none, c⟩ t else _) = _
        rw [if_neg (by decide), if_neg (by decide), if_pos rfl, textG]
        show (if t = [] then _ else _) = _
        rw [if_neg g4]
        unfold lastK at g6
        cases hl : u.ks.getLast? with
        | none => show (if 4096 ≤ c then _ else _) = _; rw [if_neg (by omega)]
        | some k =>
          rw [hl] at g6
          have g6' : ¬ k.n = [] := by simpa using g6
          show (if k.n = [] then _ else if 4096 ≤ c then _ else _) = _
          rw [if_neg g6', if_neg (by omega)]
      show (Option.bind (match addG ⟨u :: st, none, c⟩ (Tm.tk ⟨4, [], [], t, 0, 0, 0⟩) with | .ok g' => foldG g' [] | .bad _ => none) fun g' => foldG g' (tkL l)) = _
      rw [e]
      show foldG ⟨u.add (.mk [] [] [] t) :: st, none, c + 1⟩ (tkL l) = _
      rw [fold_L l (u.add (.mk [] [] [] t)) st (c + 1) (by rw [hlk]; exact h2) (by omega) hd]
      exact congrArg some (fin (.mk [] [] [] t))
    · rw [Tr.deps, if_neg g1] at hd
      rw [fold_T x (u :: st) c g2 (by omega) (by show st.length + 1 + x.dep ≤ 64; omega)]
      show foldG (leaveG ⟨x :: u :: st, none, c + x.size⟩) (tkL l) = _
      rw [leave_cons, fold_L l (u.add x) st (c + x.size) (by rw [hlk]; exact h2) (by omega) (by omega)]
      exact congrArg some (fin x)
end
/-- what is printed of a tree that may be is built as that tree -/
theorem build_back {x : Tr} (h : x.mayB = true) (hl : (prM (tkT x)).length ≤ 65536) : buildM (prM (tkT x)) = .ok x := by
  unfold Tr.mayB at h
  simp only [Bool.and_eq_true, decide_eq_true_eq] at h
  obtain ⟨⟨h1, h2⟩, h3⟩ := h
  obtain ⟨k1, k2, _⟩ := okT_T x h1
  obtain ⟨ts, g1, g2, g3⟩ := all_back (nm_of k1 (k2 false) true) hl
  have hf := fold_T x [] 0 h1 (by omega) (by simpa using h3)
  unfold buildM
  rw [g1]
  show growM _ _ ts = _
  rw [grow_fold _ ts (tkT x) _ _ g2 g3 hf]
  rfl
/-! how long it is -/
theorem prM_app3 (a b : List Tm) : prM (a ++ b) = prM a ++ prM b := by simp [prM]
theorem atP_len {p : At2} : (atP p).length ≤ 4 + p.1.length + 6 * p.2.length := by
  have := escS_len true p.2
  unfold atP
  simp only [List.length_cons, List.length_append, List.length_nil]
  omega
theorem atsP_len : ∀ (l : List At2), (∀ p ∈ l, p.1.length ≤ 1000 ∧ p.2.length ≤ 1000) → (l.flatMap atP).length ≤ 7004 * l.length
  | [], _ => by simp
  | p :: l, h => by
    have h1 := h p (by simp)
    have h2 := atsP_len l fun q hq => h q (by simp [hq])
    have h3 := atP_len (p := p)
    simp only [List.flatMap_cons, List.length_append, List.length_cons]
    omega
theorem prM_cons (x : Tm) (l : List Tm) : prM (x :: l) = prT x.k x.n x.ats x.t ++ prM l := rfl
mutual
theorem prT_len : ∀ (x : Tr), x.sm → (prM (tkT x)).length ≤ 150000 * x.size ∧ ∀ y ∈ tkT x, y.t.length ≤ 2000000 ∧ ∀ p ∈ y.ats, p.2.length ≤ 2000000
  | .mk n ats ks t, h => by
    have h1 := h.2.2.1
    have h2 := h.2.2.2.1
    have h3 := h.2.2.2.2.1
    have h4 : ats.length ≤ 20 := by first | exact h.2.1 | exact h.1
    obtain ⟨k1, k2⟩ := prL_len ks h.2.2.2.2.2
    have ha := atsP_len ats h3
    simp only [Tr.size]
    by_cases hn : n = []
    · rw [tkT_text (x := .mk n ats ks t) hn]
      refine ⟨?_, fun y hy => ?_⟩
      · have := escS_len false t
        show (escS false t ++ []).length ≤ _
        rw [List.append_nil]; omega
      · obtain rfl := List.mem_singleton.1 hy
        exact ⟨by show t.length ≤ _; omega, by simp⟩
    · by_cases hk : ks = []
      · rw [tkT_empty (x := .mk n ats ks t) hn hk]
        refine ⟨?_, fun y hy => ?_⟩
        · show (60 :: (n ++ ats.flatMap atP) ++ [47, 62] ++ []).length ≤ _
          simp only [List.length_append, List.length_cons, List.length_nil]
          omega
        · obtain rfl := List.mem_singleton.1 hy
          exact ⟨by simp, fun p hp => by have := (h3 p hp).2; omega⟩
      · rw [tkT_full (x := .mk n ats ks t) hn hk]
        refine ⟨?_, fun y hy => ?_⟩
        · rw [prM_cons, prM_app3]
          show ((60 :: (n ++ ats.flatMap atP) ++ [62]) ++ (prM (tkL ks) ++ (60 :: 47 :: (n ++ [62]) ++ []))).length ≤ _
          simp only [List.length_append, List.length_cons, List.length_nil]
          omega
        · rcases List.mem_cons.1 hy with rfl | hy
          · exact ⟨by simp, fun p hp => by have := (h3 p hp).2; omega⟩
          · rcases List.mem_append.1 hy with hy | hy
            · exact k2 y hy
            · obtain rfl := List.mem_singleton.1 hy
              exact ⟨by simp, by simp⟩
theorem prL_len : ∀ (l : List Tr), Tr.sms l → (prM (tkL l)).length ≤ 150000 * Tr.sizes l ∧ ∀ y ∈ tkL l, y.t.length ≤ 2000000 ∧ ∀ p ∈ y.ats, p.2.length ≤ 2000000
  | [], _ => ⟨by simp [tkL, prM], by simp [tkL]⟩
  | x :: l, h => by
    obtain ⟨h1, h2⟩ := prT_len x h.1
    obtain ⟨h3, h4⟩ := prL_len l h.2
    rw [tkL, prM_app3, Tr.sizes]
    refine ⟨by rw [List.length_append]; omega, fun y hy => ?_⟩
    rcases List.mem_append.1 hy with hy | hy
    · exact h2 y hy
    · exact h4 y hy
end
mutual
/-- how many tokens there are -/
theorem tkT_len : ∀ (x : Tr), (tkT x).length ≤ 2 * x.size
  | .mk n ats ks t => by
    have := tkL_len ks
    rw [tkT]
    simp only [Tr.size]
    split
    · simp; omega
    · split
      · simp; omega
      · simp only [List.length_cons, List.length_append, List.length_nil]; omega
theorem tkL_len : ∀ (l : List Tr), (tkL l).length ≤ 2 * Tr.sizes l
  | [] => by simp [tkL]
  | x :: l => by
    have h1 := tkT_len x
    have h2 := tkL_len l
    rw [tkL, List.length_append, Tr.sizes]; omega
end
end
/-! PrtB3 -/
section
theorem cat_3 (a z n : List UInt8) : ((⟨a.toArray⟩ : ByteArray) ++ str n) ++ ⟨z.toArray⟩ = str (a ++ (n ++ z)) := by
  show (str a ++ str n) ++ str z = _
  rw [app_str, app_str, List.append_assoc]
set_option maxRecDepth 100000 in
set_option maxHeartbeats 8000000 in
theorem printOne_at (B b : Nat) (acc n t : List UInt8) (k p0 p1 p2 : Int) (va : Value) (L : List At2) (w0 w : World) (hw0 : w0.heap.size ≤ B) (hb0 : Below w0.heap.size w0 w) (hr : RdAs w0 va L) (hv : ∀ p ∈ L, p.2.length ≤ 2000000) (ht : t.length ≤ 2000000)
    (hsz : acc.length + (prT k n L t).length ≤ 100000000) (hB : B ≤ w.heap.size) (hbd : Bld B b acc w) :
    Calls Tryz.prog 49 #[.pointer (some ⟨b, 0, none⟩), .agg #[.int .i64 k, .string (str n), va, .string (str t), .int .i64 p0, .int .i64 p1, .int .i64 p2]] w
      fun e w' => e = .returned (.tuple #[]) ∧ Bld B b (acc ++ prT k n L t) w' ∧ Below B w w' := by
  obtain ⟨aa, ac, hva⟩ := RdSl.shape hr
  subst hva
  obtain ⟨wT, hwT⟩ : ∃ wT, wT = w.alloc (.cells #[.int .i64 k, .string (str n), .slice aa L.length ac, .string (str t), .int .i64 p0, .int .i64 p1, .int .i64 p2] 51) := ⟨_, rfl⟩
  have hbT : Below w.heap.size w wT := by rw [hwT]; exact (Below.refl _ _).alloc (Nat.le_refl _) _
  have hrow : wT.heap[w.heap.size]? = some (.cells #[.int .i64 k, .string (str n), .slice aa L.length ac, .string (str t), .int .i64 p0, .int .i64 p1, .int .i64 p2] 51 (0, 0)) := by rw [hwT]; exact heap_alloc_new w _
  have HBD := Lib.hid (hbd.below hbT)
  have HBT := Lib.hid (hbT.mono hB)
  have HBS := Lib.hid (Nat.le_trans hB hbT.size)
  have HWT := Lib.hid hwT
  have HPT := Lib.hid (fun E hE => printTag_at B b acc E n t k p0 p1 p2 (.slice aa L.length ac) L w0 wT hw0 (hb0.trans (hbT.mono hb0.size)) hr hv hE (Nat.le_trans hB hbT.size) (hbd.below hbT))
  have HSZ := Lib.hid hsz
  have z0 : wT.cell? ⟨w.heap.size, 0, none⟩ = some (.int .i64 k) := by rw [cell_of_row wT _ 0 _ _ (0, 0) hrow]; rfl
  have z1 : wT.cell? ⟨w.heap.size, 1, none⟩ = some (.string (str n)) := by rw [cell_of_row wT _ 1 _ _ (0, 0) hrow]; rfl
  have z2 : wT.cell? ⟨w.heap.size, 2, none⟩ = some (.slice aa L.length ac) := by rw [cell_of_row wT _ 2 _ _ (0, 0) hrow]; rfl
  have z3 : wT.cell? ⟨w.heap.size, 3, none⟩ = some (.string (str t)) := by rw [cell_of_row wT _ 3 _ _ (0, 0) hrow]; rfl
  have z4 : wT.cell? ⟨w.heap.size, 4, none⟩ = some (.int .i64 p0) := by rw [cell_of_row wT _ 4 _ _ (0, 0) hrow]; rfl
  have z5 : wT.cell? ⟨w.heap.size, 5, none⟩ = some (.int .i64 p1) := by rw [cell_of_row wT _ 5 _ _ (0, 0) hrow]; rfl
  have z6 : wT.cell? ⟨w.heap.size, 6, none⟩ = some (.int .i64 p2) := by rw [cell_of_row wT _ 6 _ _ (0, 0) hrow]; rfl
  have HES := Lib.hid (fun w => EscB false (str t) (by rw [size_str]; exact ht) w)
  rw [toList_str] at HES
  clear hw0 hb0 hr hv hB hbd hrow hbT hwT ht hsz
  go_enter Tryz.func49, Tryz.ntmps49
  go_upto_region 1 with fail
  rw [← HWT.out]
  by_cases k5 : k = 5
  · have q5 : (k == 5) = true := by rw [k5]; rfl
    have HP := Lib.hid (show prT k n L t = [60, 33, 45, 45] ++ (t ++ [45, 45, 62]) by rw [k5]; rfl)
    have hs1 := HSZ.out
    rw [HP.out] at hs1
    have htI : ((str t).size : Int) ≤ 100000000 := by rw [size_str]; simp only [List.length_append] at hs1; omega
    have HW := Lib.hid (bu_writeString B b acc (str ([60, 33, 45, 45] ++ (t ++ [45, 45, 62]))) wT HBD.out (by rw [size_str]; omega) HBS.out)
    have HC := Lib.hid (cat_3 [60, 33, 45, 45] [45, 45, 62] t)
    clear k5 hs1
    go_wp2_with fail
    rw [HC.out]
    refine HW.out.mono ?_
    rintro e w3 ⟨rfl, hbd3, hb3⟩
    have HBD3 := Lib.hid hbd3
    have HB3 := Lib.hid (HBT.out.trans hb3)
    clear hbd3 hb3
    go_wp2
    go_end0
    exact ⟨rfl, by rw [HP.out]; exact HBD3.out, HB3.out⟩
  have q5 : (k == 5) = false := by simpa using k5
  by_cases k6 : k = 6
  · have q6 : (k == 6) = true := by rw [k6]; rfl
    have HP := Lib.hid (show prT k n L t = [60, 63, 120, 109, 108] ++ (t ++ [63, 62]) by rw [k6]; rfl)
    have hs1 := HSZ.out
    rw [HP.out] at hs1
    have htI : ((str t).size : Int) ≤ 100000000 := by rw [size_str]; simp only [List.length_append] at hs1; omega
    have HW := Lib.hid (bu_writeString B b acc (str ([60, 63, 120, 109, 108] ++ (t ++ [63, 62]))) wT HBD.out (by rw [size_str]; omega) HBS.out)
    have HC := Lib.hid (cat_3 [60, 63, 120, 109, 108] [63, 62] t)
    clear k5 k6 hs1
    go_wp2_with fail
    rw [HC.out]
    refine HW.out.mono ?_
    rintro e w3 ⟨rfl, hbd3, hb3⟩
    have HBD3 := Lib.hid hbd3
    have HB3 := Lib.hid (HBT.out.trans hb3)
    clear hbd3 hb3
    go_wp2
    go_end0
    exact ⟨rfl, by rw [HP.out]; exact HBD3.out, HB3.out⟩
  have q6 : (k == 6) = false := by simpa using k6
  by_cases k4 : k = 4
  · have q4 : (k == 4) = true := by rw [k4]; rfl
    have HP := Lib.hid (show prT k n L t = escS false t by rw [k4]; rfl)
    have hs1 := HSZ.out
    rw [HP.out] at hs1
    have HW := Lib.hid (fun w1 (hb : Below wT.heap.size wT w1) => bu_writeString B b acc (str (escS false t)) w1 (HBD.out.below hb) (by rw [size_str]; omega) (Nat.le_trans HBS.out hb.size))
    clear k4 k5 k6 hs1
    go_wp2_with fail
    refine (HES.out _).mono ?_
    rintro e w2 ⟨rfl, hb2⟩
    have HB2 := Lib.hid hb2
    clear hb2
    go_wp2_with fail
    refine (HW.out _ HB2.out).mono ?_
    rintro e w3 ⟨rfl, hbd3, hb3⟩
    have HBD3 := Lib.hid hbd3
    have HB3 := Lib.hid (HBT.out.trans ((HB2.out.mono HBS.out).trans hb3))
    clear hbd3 hb3
    go_wp2
    go_end0
    exact ⟨rfl, by rw [HP.out]; exact HBD3.out, HB3.out⟩
  have q4 : (k == 4) = false := by simpa using k4
  by_cases k3 : k = 3
  · have q3 : (k == 3) = true := by rw [k3]; rfl
    have HP := Lib.hid (show prT k n L t = [60, 47] ++ (n ++ [62]) by rw [k3]; rfl)
    have hs1 := HSZ.out
    rw [HP.out] at hs1
    have htI : ((str n).size : Int) ≤ 100000000 := by rw [size_str]; simp only [List.length_append] at hs1; omega
    have HW := Lib.hid (bu_writeString B b acc (str ([60, 47] ++ (n ++ [62]))) wT HBD.out (by rw [size_str]; omega) HBS.out)
    have HC := Lib.hid (cat_3 [60, 47] [62] n)
    clear k3 k4 k5 k6 hs1
    go_wp2_with fail
    rw [HC.out]
    refine HW.out.mono ?_
    rintro e w3 ⟨rfl, hbd3, hb3⟩
    have HBD3 := Lib.hid hbd3
    have HB3 := Lib.hid (HBT.out.trans hb3)
    clear hbd3 hb3
    go_wp2
    go_end0
    exact ⟨rfl, by rw [HP.out]; exact HBD3.out, HB3.out⟩
  have q3 : (k == 3) = false := by simpa using k3
  by_cases k1 : k = 1
  · have q1 : (k == 1) = true := by rw [k1]; rfl
    have HP := Lib.hid (show prT k n L t = tagP n L ++ [62] by rw [k1]; rfl)
    have hs1 := HSZ.out
    rw [HP.out, List.length_append] at hs1
    have HW := Lib.hid (HPT.out [62] (by omega))
    clear k1 k3 k4 k5 k6 hs1
    go_wp2_with fail
    refine HW.out.mono ?_
    rintro e w3 ⟨rfl, hbd3, hb3⟩
    have HBD3 := Lib.hid hbd3
    have HB3 := Lib.hid (HBT.out.trans hb3)
    clear hbd3 hb3
    go_wp2
    go_end0
    exact ⟨rfl, by rw [HP.out, ← List.append_assoc]; exact HBD3.out, HB3.out⟩
  have q1 : (k == 1) = false := by simpa using k1
  by_cases k2 : k = 2
  · have q2 : (k == 2) = true := by rw [k2]; rfl
    have HP := Lib.hid (show prT k n L t = tagP n L ++ [47, 62] by rw [k2]; rfl)
    have hs1 := HSZ.out
    rw [HP.out, List.length_append] at hs1
    have HW := Lib.hid (HPT.out [47, 62] (by omega))
    clear k1 k2 k3 k4 k5 k6 hs1
    go_wp2_with fail
    refine HW.out.mono ?_
    rintro e w3 ⟨rfl, hbd3, hb3⟩
    have HBD3 := Lib.hid hbd3
    have HB3 := Lib.hid (HBT.out.trans hb3)
    clear hbd3 hb3
    go_wp2
    go_end0
    exact ⟨rfl, by rw [HP.out, ← List.append_assoc]; exact HBD3.out, HB3.out⟩
  have q2 : (k == 2) = false := by simpa using k2
  have HP := Lib.hid (show prT k n L t = [] by unfold prT; rw [if_neg k5, if_neg k6, if_neg k4, if_neg k3, if_neg k1, if_neg k2])
  clear k1 k2 k3 k4 k5 k6
  go_wp2
  go_end0
  exact ⟨rfl, by rw [HP.out, List.append_nil]; exact HBD.out, HBT.out⟩
theorem prM_snoc (l : List Tm) (q : Nat) (x : Tm) (h : l[q]? = some x) : prM (l.take (q + 1)) = prM (l.take q) ++ prT x.k x.n x.ats x.t := by rw [take_snoc _ q x h]; simp [prM]
theorem prM_le (l : List Tm) (q : Nat) : (prM (l.take q)).length ≤ (prM l).length := by
  conv => rhs; rw [← List.take_append_drop q l]
  unfold prM
  rw [List.flatMap_append, List.length_append]
  omega
set_option maxRecDepth 100000 in
set_option maxHeartbeats 8000000 in
theorem Print_any (v : Value) (l : List Tm) (w : World) (hr : RdTs w v l) (hx : ∀ x ∈ l, x.t.length ≤ 2000000 ∧ ∀ p ∈ x.ats, p.2.length ≤ 2000000) (hsz : (prM l).length ≤ 100000000) :
    Calls Tryz.prog 29 #[v] w fun e w' => e = .returned (.string (str (prM l))) ∧ Below w.heap.size w w' := by
  obtain ⟨va, vc, hv⟩ := RdSl.shape hr
  subst hv
  have hla := RdSl.len hr
  have hlaI : (l.length : Int) ≤ 9223372036854775807 := by omega
  obtain ⟨w1, hw1⟩ : ∃ w1, w1 = w.alloc (.cells #[.pointer none, .slice none 0 0] 89) := ⟨_, rfl⟩
  have hb1 : Below w.heap.size w w1 := by rw [hw1]; exact (Below.refl _ _).alloc (Nat.le_refl _) _
  have HBD := Lib.hid (show Bld w.heap.size w.heap.size [] w1 by rw [hw1]; exact .inl ⟨Nat.le_refl _, _, heap_alloc_new w _, World.ownsRow_nil _ _ _ _, by simp [Value.ownBlock]⟩)
  have HB1 := Lib.hid hb1
  have HR := Lib.hid hr
  have HX := Lib.hid hx
  have HSZ := Lib.hid hsz
  have HW1 := Lib.hid hw1
  clear hr hx hsz hb1 hw1 hla
  go_enter Tryz.func29, Tryz.ntmps29
  go_upto_region 2 with fail
  rw [← HW1.out]
  go_wp2_with fail
  go_loopw [8] (fun i wr => ∃ q : Nat, q ≤ l.length ∧ i = .int .i64 q ∧ Bld w.heap.size w.heap.size (prM (l.take q)) wr ∧ Below w.heap.size w wr) (fun i _ => l.length - (intOf i).toNat)
  case atStart => exact ⟨0, by omega, rfl, HBD.out, HB1.out⟩
  case round =>
    obtain ⟨q, hq, rfl, hbdr, hbr⟩ := hrel
    have HBDR := Lib.hid hbdr
    have HBR := Lib.hid hbr
    clear hbdr hbr
    by_cases hlt : q < l.length
    · obtain ⟨x, hx⟩ : ∃ x, l[q]? = some x := ⟨_, List.getElem?_eq_getElem hlt⟩
      have HXX := Lib.hid hx
      have hxx := HX.out _ (List.mem_of_getElem? hx)
      obtain ⟨bb, e1, ta, ⟨x0, x1, x2, x3, x4, x5, x6⟩, hats⟩ := RdSl.elem (HR.out.below HBR.out (Nat.le_refl _)) hx
      subst e1
      obtain ⟨k, n, ats, t, p0, p1, p2⟩ := x
      dsimp only at x0 x1 x2 x3 x4 x5 x6 hats hxx
      obtain ⟨bb0, e1, ta0, ⟨_, _, y2, _, _, _, _⟩, hats0⟩ := RdSl.elem HR.out hx
      obtain rfl : bb = bb0 := Option.some.inj e1
      have hta : ta0 = ta := by
        have h2 := (HBR.out.cell (World.block_lt_of_cell? w _ y2)).trans y2
        rw [x2] at h2
        exact (Option.some.inj h2).symm
      subst hta
      obtain ⟨ua, uc, hua⟩ := RdSl.shape hats0
      subst hua
      obtain ⟨wb, hwb⟩ : ∃ wb, wb = wr.alloc (.cells #[.int .i64 k, .string (str n), .slice ua ats.length uc, .string (str t), .int .i64 p0, .int .i64 p1, .int .i64 p2] 51) := ⟨_, rfl⟩
      have hbb : Below wr.heap.size wr wb := by rw [hwb]; exact (Below.refl _ _).alloc (Nat.le_refl _) _
      have hrow : wb.heap[wr.heap.size]? = some (.cells #[.int .i64 k, .string (str n), .slice ua ats.length uc, .string (str t), .int .i64 p0, .int .i64 p1, .int .i64 p2] 51 (0, 0)) := by rw [hwb]; exact heap_alloc_new wr _
      have HBWB := Lib.hid (HBR.out.trans (hbb.mono HBR.out.size))
      have hlen : (prM (l.take q)).length + (prT k n ats t).length ≤ 100000000 := by
        have h1 := prM_le l (q + 1)
        rw [prM_snoc l q _ hx, List.length_append] at h1
        have := HSZ.out
        dsimp only at h1
        omega
      have HPO := Lib.hid (printOne_at w.heap.size w.heap.size (prM (l.take q)) n t k p0 p1 p2 (.slice ua ats.length uc) ats w wb (Nat.le_refl _) HBWB.out hats0 hxx.2 hxx.1 hlen HBWB.out.size (HBDR.out.below hbb))
      have HWB := Lib.hid hwb
      have hqI : (q : Int) < (l.length : Int) := by omega
      clear hbb hwb hx hats hats0 hxx hlen y2 e1
      go_upto_region 5 with fail
      rw [← HWB.out]
      generalize wr.heap.size = KB at hrow ⊢
      clear x0 x1 x2 x3 x4 x5 x6
      have z0 : wb.cell? ⟨KB, 0, none⟩ = some (.int .i64 k) := by rw [cell_of_row wb _ 0 _ _ (0, 0) hrow]; rfl
      have z1 : wb.cell? ⟨KB, 1, none⟩ = some (.string (str n)) := by rw [cell_of_row wb _ 1 _ _ (0, 0) hrow]; rfl
      have z2 : wb.cell? ⟨KB, 2, none⟩ = some (.slice ua ats.length uc) := by rw [cell_of_row wb _ 2 _ _ (0, 0) hrow]; rfl
      have z3 : wb.cell? ⟨KB, 3, none⟩ = some (.string (str t)) := by rw [cell_of_row wb _ 3 _ _ (0, 0) hrow]; rfl
      have z4 : wb.cell? ⟨KB, 4, none⟩ = some (.int .i64 p0) := by rw [cell_of_row wb _ 4 _ _ (0, 0) hrow]; rfl
      have z5 : wb.cell? ⟨KB, 5, none⟩ = some (.int .i64 p1) := by rw [cell_of_row wb _ 5 _ _ (0, 0) hrow]; rfl
      have z6 : wb.cell? ⟨KB, 6, none⟩ = some (.int .i64 p2) := by rw [cell_of_row wb _ 6 _ _ (0, 0) hrow]; rfl
      clear hrow
      go_wp2_with fail
      refine HPO.out.mono ?_
      rintro e w3 ⟨rfl, hbd3, hb3⟩
      have HBD3 := Lib.hid hbd3
      have HB3 := Lib.hid (HBWB.out.trans hb3)
      clear hbd3 hb3 z0 z1 z2 z3 z4 z5 z6
      go_wp2
      go_roundw
      case rel => exact ⟨q + 1, by omega, by go_num, by rw [prM_snoc l q _ HXX.out]; exact HBD3.out, HB3.out⟩
      case measure => simp [intOf]; omega
    · have hle : (l.length : Int) ≤ q := by omega
      have HTA := Lib.hid (show l.take q = l from List.take_of_length_le (by omega))
      have HST := Lib.hid (Tryz.Builder_String_any w.heap.size w.heap.size _ _ HBDR.out HBR.out.size)
      go_wp2_with fail
      refine HST.out.mono ?_
      rintro e w4 ⟨rfl, hb4⟩
      have HB4 := Lib.hid (HBR.out.trans hb4)
      clear hb4
      go_wp2
      go_ret
      exact ⟨ret_str (by rw [HTA.out]; rfl), HB4.out⟩
end
/-! Prt3 -/
section
/-- what stays: all but the list's variable and rows of tokens -/
def KeepX (L : Nat) (w w' : World) : Prop := w.heap.size ≤ w'.heap.size ∧ ∀ b cs e m, w.heap[b]? = some (.cells cs e m) → e ≠ 51 → b ≠ L → w'.heap[b]? = w.heap[b]?
section
variable {L : Nat} {w w' w2 : World}
theorem KeepX.refl (L : Nat) (w : World) : KeepX L w w := ⟨Nat.le_refl _, fun _ _ _ _ _ _ _ => rfl⟩
theorem KeepX.trans (h : KeepX L w w') (h2 : KeepX L w' w2) : KeepX L w w2 := ⟨Nat.le_trans h.1 h2.1, fun b cs e m hb he hL => by
  have h3 := h.2 b cs e m hb he hL
  exact (h2.2 b cs e m (h3.trans hb) he hL).trans h3⟩
theorem KeepX.below (hb : Below w.heap.size w w') : KeepX L w w' := ⟨hb.size, fun b cs e m h _ _ => hb.block b (Array.getElem?_eq_some_iff.1 h).1⟩
theorem KeepX.grown {base n : Nat} {v : Value} {xs : List Value} (ho : w.ownsRow base 51 7 v n xs) (hg : w.grownBy w' v.ownBlock) : KeepX L w w' := by
  refine ⟨hg.size, fun b cs e m h he _ => hg.block b (Array.getElem?_eq_some_iff.1 h).1 fun hx => ?_⟩
  rcases ho.2 with ⟨rfl, _⟩ | ⟨g, cap, cur, rfl, _, hq, _⟩
  · cases hx
  · cases hx
    rw [hq] at h
    cases h
    exact he rfl
theorem KeepX.setL (v : Value) : KeepX L w (w.setCell ⟨L, 0, none⟩ v) := ⟨by simp, fun b cs e m h _ hL => heap_setCell_other w ⟨L, 0, none⟩ b v (fun e => hL e)⟩
end
/-- on the way: the tree lies in w0, the list's variable is L, the closure's V -/
structure P3 (w0 : World) (L V : Nat) (acc : List (Tm × Value)) (v : Value) (wk : World) : Prop where
  b : Below w0.heap.size w0 wk
  l : wk.heap[L]? = some (.cells #[v] 42 (0, 0))
  c : wk.cell? ⟨V, 0, none⟩ = some (.func (.func 28) #[] #[.pointer (some ⟨L, 0, none⟩), .pointer (some ⟨V, 0, none⟩)])
  o : wk.ownsRow (V + 1) 51 7 v acc.length (rowTs acc)
  a : ∀ p ∈ acc, RdAs w0 p.2 p.1.ats
  n : w0.heap.size ≤ L ∧ L < V
section
variable {w0 wk wk' : World} {L V : Nat} {acc : List (Tm × Value)} {v : Value}
theorem P3.lt (h : P3 w0 L V acc v wk) : V < wk.heap.size := World.block_lt_of_cell? wk _ h.c
theorem P3.below (h : P3 w0 L V acc v wk) (hb : Below wk.heap.size wk wk') : P3 w0 L V acc v wk' :=
  ⟨h.b.trans (hb.mono h.b.size), (hb.block L (Array.getElem?_eq_some_iff.1 h.l).1).trans h.l, (hb.cell h.lt).trans h.c, own_belowG h.o hb, h.a, h.n⟩
theorem P3.push {v' va : Value} {x : Tm} (h : P3 w0 L V acc v wk) (hva : RdAs w0 va x.ats) (ho : wk'.ownsRow (V + 1) 51 7 v' (acc.length + 1) (rowTs acc ++ tmL x va)) (hg : wk.grownBy wk' v.ownBlock) :
    P3 w0 L V (acc ++ [(x, va)]) v' (wk'.setCell ⟨L, 0, none⟩ v') ∧ KeepX L wk (wk'.setCell ⟨L, 0, none⟩ v') := by
  have hn := h.n
  have hlt : ∀ q, v.ownBlock = some q → V + 1 ≤ q := fun q hq => (h.o.lt q hq).1
  have hV := h.lt
  have hb : Below (V + 1) wk wk' := (Below.refl _ _).grown hg (by omega) hlt
  have hl : wk'.heap[L]? = some (.cells #[v] 42 (0, 0)) := (hb.block L (by omega)).trans h.l
  refine ⟨⟨(h.b.trans (hb.mono (by omega))).setCell hn.1 _, ?_, ?_, ?_, ?_, hn⟩, (KeepX.grown h.o hg).trans (KeepX.setL v')⟩
  · have := heap_setCell_same wk' L 0 _ _ v' hl
    simpa using this
  · have hbV : (wk'.setCell ⟨L, 0, none⟩ v').heap[V]? = wk.heap[V]? := (heap_setCell_other wk' ⟨L, 0, none⟩ V v' (fun e => by simp only at e; omega)).trans (hb.block V (by omega))
    exact (World.cell?_of_block (a := ⟨V, 0, none⟩) hbV).trans h.c
  · rw [List.length_append, List.length_singleton, rowTs_snoc]
    exact ownsRow_setCell_below ho (a := ⟨L, 0, none⟩) (by simp; omega) v'
  · intro p hp
    rcases List.mem_append.1 hp with hp | hp
    · exact h.a p hp
    · rw [List.mem_singleton] at hp
      subst hp
      exact hva
theorem P3.rd (h : P3 w0 L V acc v wk) : RdTs wk v (acc.map (·.1)) := RdTs.of_own h.o fun p hp => (h.a p hp).below h.b (Nat.le_refl _)
theorem P3.slice (h : P3 w0 L V acc v wk) : ∃ a c, v = .slice a acc.length c := by
  obtain ⟨a, c, hv⟩ := RdSl.shape h.rd
  rw [List.length_map] at hv
  exact ⟨a, c, hv⟩
theorem P3.cell (h : P3 w0 L V acc v wk) : wk.cell? ⟨L, 0, none⟩ = some v := by rw [cell_of_row wk L 0 _ _ (0, 0) h.l]; rfl
end
/-- a token behind a row of one's own -/
theorem appP3 {ops : Array Oper} {rest : List Oper} {o : Oper} {a : Act} {Q : Exit → Act → World → Prop} (w0 : World) {W : World} (p : Tm) (va : Value) (hva : va.oneCell' = true) (hW : W = w0.alloc (.cells #[.int .i64 p.k, .string (str p.n), va, .string (str p.t), .int .i64 p.po, .int .i64 p.pl, .int .i64 p.pc] 51)) (hgd : o.guard = none) (s x : Operand)
    (ho : o.op = .call { callee := .builtin .append, args := #[s, x], argTypes := #[42, 42] }) (base n : Nat)
    (v : Value) (xs : List Value) (hs : a.eval s = v) (hown : w0.ownsRow base 51 7 v n xs) (hx : a.eval x = .slice (some ⟨w0.heap.size, 0, none⟩) 1 1)
    (h63 : n ≤ 10000000) (hbase : base ≤ w0.heap.size)
    (h : ∀ v' w', w'.ownsRow base 51 7 v' (n + 1) (xs ++ tmL p va) → w0.grownBy w' v.ownBlock → wpList Tryz.prog ops Q rest (a.put o.dst v') w') :
    wpList Tryz.prog ops Q (o :: rest) a W := by
  subst hW
  obtain ⟨i, hi, hz, hsize, hby⟩ := info_parts token_info
  refine wpList_append_own _ hgd s x _ ho base 51 i _ 7 88 Tryz.underlying42 hi hz hsize hby rfl (by omega) v n xs hs (hown.alloc _) ⟨w0.heap.size, 0, none⟩ 1 1 (tmL p va) hx rfl ?_ ?_ (by simp only [maxLen]; omega) (by omega) (by simp; omega) ?_
  · intro j y hj
    rw [show (⟨w0.heap.size, 0, none⟩ : Addr).add j = ⟨w0.heap.size, j, none⟩ by unfold Addr.add; split <;> simp_all, World.cell?_alloc_at _ _ _ _ rfl]
    simpa [tmL] using hj
  · intro u hu
    simp only [tmL, List.mem_cons, List.not_mem_nil, or_false] at hu
    rcases hu with rfl | rfl | rfl | rfl | rfl | rfl | rfl <;> first | rfl | exact hva
  · intro v' w' ho' hg _
    exact h v' w' ho' ⟨hg.os, hg.tape, hg.output, Nat.le_trans (by simp) hg.size, fun k hk hne => (hg.block k (by simp; omega) hne).trans (Below.heap_alloc _ _ _ hk)⟩
/-- what the closure does with a tree -/
def LayS (x : Tr) : Prop :=
  ∀ (w0 : World) (L V : Nat) (acc : List (Tm × Value)) (v va vk : Value) (w : World), NdV w0 (allF w0) x va vk → P3 w0 L V acc v w → acc.length + (tkT x).length ≤ 1000000 →
    Calls Tryz.prog 28 #[nodeV x va vk, .pointer (some ⟨L, 0, none⟩), .pointer (some ⟨V, 0, none⟩)] w fun e w' => e = .returned (.tuple #[]) ∧ KeepX L w w' ∧ ∃ acc' v', P3 w0 L V (acc ++ acc') v' w' ∧ acc'.map (·.1) = tkT x
set_option maxRecDepth 100000 in
set_option maxHeartbeats 4000000 in
theorem lay_step (x : Tr) (hS : ∀ k ∈ x.ks, LayS k) : LayS x := by
  intro w0 L V acc v va vk w hx hp hlen
  obtain ⟨c1, c2, c3, c4, rfl, rfl⟩ := node_cells hx
  unfold nodeV
  obtain ⟨a1, a2, rfl⟩ := hp.slice
  obtain ⟨w1, hw1⟩ : ∃ w1, w1 = w.alloc (.cells #[.string (str x.n), .slice c1 x.ats.length c2, .slice c3 x.ks.length c4, .string (str x.t)] 26) := ⟨_, rfl⟩
  have hb1 : Below w.heap.size w w1 := by rw [hw1]; exact (Below.refl _ _).alloc (Nat.le_refl _) _
  have hX : w1.heap[w.heap.size]? = some (.cells #[.string (str x.n), .slice c1 x.ats.length c2, .slice c3 x.ks.length c4, .string (str x.t)] 26 (0, 0)) := by rw [hw1]; exact heap_alloc_new w _
  have hp1 := hp.below hb1
  have HXL := Lib.hid (show w.heap.size ≠ L by have h1 := hp.n; have h2 := hp.lt; omega)
  have HROW := Lib.hid hX
  have HXC := Lib.hid (show ∀ w2, KeepX L w1 w2 → Sr3 w.heap.size x c1 c2 c3 c4 w2 from fun w2 hk => by
    have h2 := (hk.2 _ _ _ _ hX (by decide) HXL.out).trans hX
    exact ⟨by rw [cell_of_row w2 _ 0 _ _ (0, 0) h2]; rfl, by rw [cell_of_row w2 _ 1 _ _ (0, 0) h2]; rfl, by rw [cell_of_row w2 _ 2 _ _ (0, 0) h2]; rfl, by rw [cell_of_row w2 _ 3 _ _ (0, 0) h2]; rfl⟩)
  have HK1 := Lib.hid (show KeepX L w w1 from KeepX.below hb1)
  have HP := Lib.hid hp1
  have c0 := hp1.cell
  have HX := Lib.hid hx
  have HW1 := Lib.hid hw1
  have HLEN := Lib.hid hlen
  have HS := Lib.hid hS
  clear hx hw1 hb1 hX hp hp1 hlen hS
  go_enter Tryz.func28, Tryz.ntmps28
  go_upto_region 1 with fail
  rw [← HW1.out]
  obtain ⟨x0, x1, x2, x3⟩ := HXC.out w1 (KeepX.refl _ _)
  by_cases hn : x.n = []
  · have HT := Lib.hid (tkT_text hn)
    have HQ := Lib.hid (show acc.length + 1 ≤ 1000000 by have := HLEN.out; rw [HT.out] at this; exact this)
    have hs0 : ((str x.n).toList == []) = true := by rw [empB_str, hn]; rfl
    clear hn
    go_wp2_with (first | (refine appP3 w1 ⟨4, [], [], x.t, 0, 0, 0⟩ (.slice none 0 0) rfl (by rfl) rfl (.tmp 10) (.tmp 14) rfl (V + 1) acc.length (.slice a1 acc.length a2) _ (by simp [Act.eval, Act.put]) HP.out.o (by simp [Act.eval, Act.put]) (by have := HQ.out; omega) (by have := HP.out.lt; omega) ?_; intro v1 w7 o7 g7; obtain ⟨gb, gc, rfl, _, _⟩ := o7.form (by omega); have h7 : w7.heap[L]? = _ := (g7.block L (Array.getElem?_eq_some_iff.1 HP.out.l).1 (fun e => by have := (HP.out.o.lt _ e.symm).1; have := HP.out.n; omega)).trans HP.out.l; have f7 : w7.frozen? ⟨L, 0, none⟩ = false := frozen_of_row w7 _ 0 _ _ h7; have x7 : w7.cell? ⟨L, 0, none⟩ = some (.slice a1 acc.length a2) := (by rw [cell_of_row w7 _ 0 _ _ (0, 0) h7]; rfl); clear h7))
    have HP7 := Lib.hid (HP.out.push (x := ⟨4, [], [], x.t, 0, 0, 0⟩) (va := .slice none 0 0) (.inl ⟨rfl, rfl⟩) o7 g7)
    clear f7 x7 o7 g7 c0 x0 x1 x2 x3
    go_wp2
    (try simp only [Exit.inBlock, Exit.then]); refine bodyPost_ret (results_none rfl _ _ _) rfl ?_
    exact ⟨rfl, HK1.out.trans HP7.out.2, [(⟨4, [], [], x.t, 0, 0, 0⟩, .slice none 0 0)], _, HP7.out.1, by rw [HT.out]; rfl⟩
  have hs0 : ((str x.n).toList == []) = false := by rw [empB_str]; exact decide_eq_false hn
  have HN := Lib.hid hn
  clear hn
  obtain ⟨wt, hwt⟩ : ∃ wt, wt = w1.alloc (.cells #[.int .i64 2, .string (str x.n), .slice c1 x.ats.length c2, .string ⟨#[]⟩, .int .i64 0, .int .i64 0, .int .i64 0] 51) := ⟨_, rfl⟩
  have hbt : Below w1.heap.size w1 wt := by rw [hwt]; exact (Below.refl _ _).alloc (Nat.le_refl _) _
  have hTt : wt.heap[w1.heap.size]? = some (.cells #[.int .i64 2, .string (str x.n), .slice c1 x.ats.length c2, .string ⟨#[]⟩, .int .i64 0, .int .i64 0, .int .i64 0] 51 (0, 0)) := by rw [hwt]; exact heap_alloc_new w1 _
  have HPT := Lib.hid (HP.out.below hbt)
  have HKT := Lib.hid (show KeepX L w1 wt from KeepX.below hbt)
  have HBT := Lib.hid hbt
  have HTT := Lib.hid hTt
  have HWT := Lib.hid hwt
  clear hwt hbt hTt
  go_upto_region 4 with fail
  rw [← HWT.out]
  have HTL := Lib.hid (show w1.heap.size ≠ L by have h1 := HP.out.n; have h2 := HP.out.lt; omega)
  obtain ⟨w6, hw6⟩ : ∃ w6, w6 = wt.setCell ⟨w1.heap.size, 0, none⟩ (.int .i64 1) := ⟨_, rfl⟩
  have hb6 : Below w1.heap.size w1 w6 := by rw [hw6]; exact HBT.out.setCell (p := ⟨w1.heap.size, 0, none⟩) (Nat.le_refl _) _
  have HP6 := Lib.hid (HP.out.below hb6)
  have HK6 := Lib.hid (show KeepX L w1 w6 from KeepX.below hb6)
  have HT6 := Lib.hid (show w6.heap[w1.heap.size]? = some (.cells #[.int .i64 1, .string (str x.n), .slice c1 x.ats.length c2, .string ⟨#[]⟩, .int .i64 0, .int .i64 0, .int .i64 0] 51 (0, 0)) by
    rw [hw6]; exact heap_setCell_same wt w1.heap.size 0 _ _ _ HTT.out)
  have HW6 := Lib.hid hw6
  clear hb6 hw6
  generalize w1.heap.size = T at HTT HTL HT6 HW6 ⊢
  clear x0 x1 x2 x3 c0
  obtain ⟨x0, x1, x2, x3⟩ := HXC.out wt HKT.out
  have c0 := HPT.out.cell
  have t0 : wt.cell? ⟨T, 0, none⟩ = some (.int .i64 2) := by rw [cell_of_row wt _ 0 _ _ (0, 0) HTT.out]; rfl
  have t1 : wt.cell? ⟨T, 1, none⟩ = some (.string (str x.n)) := by rw [cell_of_row wt _ 1 _ _ (0, 0) HTT.out]; rfl
  have t2 : wt.cell? ⟨T, 2, none⟩ = some (.slice c1 x.ats.length c2) := by rw [cell_of_row wt _ 2 _ _ (0, 0) HTT.out]; rfl
  have t3 : wt.cell? ⟨T, 3, none⟩ = some (.string ⟨#[]⟩) := by rw [cell_of_row wt _ 3 _ _ (0, 0) HTT.out]; rfl
  have t4 : wt.cell? ⟨T, 4, none⟩ = some (.int .i64 0) := by rw [cell_of_row wt _ 4 _ _ (0, 0) HTT.out]; rfl
  have t5 : wt.cell? ⟨T, 5, none⟩ = some (.int .i64 0) := by rw [cell_of_row wt _ 5 _ _ (0, 0) HTT.out]; rfl
  have t6 : wt.cell? ⟨T, 6, none⟩ = some (.int .i64 0) := by rw [cell_of_row wt _ 6 _ _ (0, 0) HTT.out]; rfl
  by_cases hk : x.ks = []
  · have HT := Lib.hid (tkT_empty HN.out hk)
    have HQ := Lib.hid (show acc.length + 1 ≤ 1000000 by have := HLEN.out; rw [HT.out] at this; exact this)
    have hk0 : ((x.ks.length : Int) == 0) = true := by rw [hk]; rfl
    clear hk
    go_wp2_with (first | (refine appP3 wt ⟨2, x.n, x.ats, [], 0, 0, 0⟩ (.slice c1 x.ats.length c2) rfl (by rfl) rfl (.tmp 25) (.tmp 27) rfl (V + 1) acc.length (.slice a1 acc.length a2) _ (by simp [Act.eval, Act.put]) HPT.out.o (by simp [Act.eval, Act.put]) (by have := HQ.out; omega) (by have := HPT.out.lt; omega) ?_; intro v1 w7 o7 g7; obtain ⟨gb, gc, rfl, _, _⟩ := o7.form (by omega); have h7 : w7.heap[L]? = _ := (g7.block L (Array.getElem?_eq_some_iff.1 HPT.out.l).1 (fun e => by have := (HPT.out.o.lt _ e.symm).1; have := HPT.out.n; omega)).trans HPT.out.l; have f7 : w7.frozen? ⟨L, 0, none⟩ = false := frozen_of_row w7 _ 0 _ _ h7; have x7 : w7.cell? ⟨L, 0, none⟩ = some (.slice a1 acc.length a2) := (by rw [cell_of_row w7 _ 0 _ _ (0, 0) h7]; rfl); clear h7))
    have HP7 := Lib.hid (HPT.out.push (x := ⟨2, x.n, x.ats, [], 0, 0, 0⟩) (va := .slice c1 x.ats.length c2) HX.out.ats o7 g7)
    clear f7 x7 o7 g7 c0 x0 x1 x2 x3 t0 t1 t2 t3 t4 t5 t6
    go_wp2
    (try simp only [Exit.inBlock, Exit.then]); refine bodyPost_ret (results_none rfl _ _ _) rfl ?_
    exact ⟨rfl, HK1.out.trans (HKT.out.trans HP7.out.2), [(⟨2, x.n, x.ats, [], 0, 0, 0⟩, .slice c1 x.ats.length c2)], _, HP7.out.1, by rw [HT.out]; rfl⟩
  have HT := Lib.hid (tkT_full HN.out hk)
  have HQ := Lib.hid (show acc.length + (tkL x.ks).length + 2 ≤ 1000000 by
    have := HLEN.out
    rw [HT.out] at this
    simp only [List.length_cons, List.length_append, List.length_nil] at this
    omega)
  have hk0 : ((x.ks.length : Int) == 0) = false := by
    have := List.length_pos_iff.2 hk
    rw [beq_eq_false_iff_ne]; omega
  clear hk
  have tf : wt.frozen? ⟨T, 0, none⟩ = false := frozen_of_row wt _ 0 _ _ HTT.out
  go_upto_region 7 with fail
  rw [← HW6.out]
  clear x0 x1 x2 x3 c0 t0 t1 t2 t3 t4 t5 t6 tf HTT HWT HW1
  have c0 := HP6.out.cell
  have t0 : w6.cell? ⟨T, 0, none⟩ = some (.int .i64 1) := by rw [cell_of_row w6 _ 0 _ _ (0, 0) HT6.out]; rfl
  have t1 : w6.cell? ⟨T, 1, none⟩ = some (.string (str x.n)) := by rw [cell_of_row w6 _ 1 _ _ (0, 0) HT6.out]; rfl
  have t2 : w6.cell? ⟨T, 2, none⟩ = some (.slice c1 x.ats.length c2) := by rw [cell_of_row w6 _ 2 _ _ (0, 0) HT6.out]; rfl
  have t3 : w6.cell? ⟨T, 3, none⟩ = some (.string ⟨#[]⟩) := by rw [cell_of_row w6 _ 3 _ _ (0, 0) HT6.out]; rfl
  have t4 : w6.cell? ⟨T, 4, none⟩ = some (.int .i64 0) := by rw [cell_of_row w6 _ 4 _ _ (0, 0) HT6.out]; rfl
  have t5 : w6.cell? ⟨T, 5, none⟩ = some (.int .i64 0) := by rw [cell_of_row w6 _ 5 _ _ (0, 0) HT6.out]; rfl
  have t6 : w6.cell? ⟨T, 6, none⟩ = some (.int .i64 0) := by rw [cell_of_row w6 _ 6 _ _ (0, 0) HT6.out]; rfl
  go_upto_region 8 with (first | (refine appP3 w6 ⟨1, x.n, x.ats, [], 0, 0, 0⟩ (.slice c1 x.ats.length c2) rfl (by rfl) rfl (.tmp 30) (.tmp 32) rfl (V + 1) acc.length (.slice a1 acc.length a2) _ (by simp [Act.eval, Act.put]) HP6.out.o (by simp [Act.eval, Act.put]) (by have := HQ.out; omega) (by have := HP6.out.lt; omega) ?_; intro v1 w7 o7 g7; obtain ⟨gb, gc, rfl, _, _⟩ := o7.form (by omega); have h7 : w7.heap[L]? = _ := (g7.block L (Array.getElem?_eq_some_iff.1 HP6.out.l).1 (fun e => by have := (HP6.out.o.lt _ e.symm).1; have := HP6.out.n; omega)).trans HP6.out.l; have f7 : w7.frozen? ⟨L, 0, none⟩ = false := frozen_of_row w7 _ 0 _ _ h7; have x7 : w7.cell? ⟨L, 0, none⟩ = some (.slice a1 acc.length a2) := (by rw [cell_of_row w7 _ 0 _ _ (0, 0) h7]; rfl); clear h7))
  have HP7 := Lib.hid (HP6.out.push (x := ⟨1, x.n, x.ats, [], 0, 0, 0⟩) (va := .slice c1 x.ats.length c2) HX.out.ats o7 g7)
  clear f7 x7 o7 g7 c0 t0 t1 t2 t3 t4 t5 t6
  generalize w7.setCell ⟨L, 0, none⟩ _ = w8 at HP7 ⊢
  have HK8 := Lib.hid (HK6.out.trans HP7.out.2)
  obtain ⟨x0, x1, x2, x3⟩ := HXC.out w8 HK8.out
  have hkl : (x.ks.length : Int) ≤ 9223372036854775807 := by have := (HX.out.rd).len; omega
  go_wp2_with fail
  clear x0 x1 x2 x3
  go_loopw [37] (fun i wr => ∃ (k : Nat) (acc' : List (Tm × Value)) (v' : Value), k ≤ x.ks.length ∧ i = .int .i64 k ∧ P3 w0 L V (acc ++ acc') v' wr ∧ KeepX L w1 wr ∧ acc'.map (·.1) = ⟨1, x.n, x.ats, [], 0, 0, 0⟩ :: tkL (x.ks.take k)) (fun i _ => x.ks.length - (intOf i).toNat)
  case atStart => exact ⟨0, _, _, by omega, rfl, HP7.out.1, HK8.out, rfl⟩
  case round =>
    obtain ⟨k, acc', v', hk, rfl, hpr, hkr, hmr⟩ := hrel
    obtain ⟨A2, hA2⟩ : ∃ A2, A2 = acc ++ acc' := ⟨_, rfl⟩
    rw [← hA2] at hpr
    have HA2 := Lib.hid hA2
    have HL2 := Lib.hid (show A2.length = acc.length + acc'.length by rw [hA2, List.length_append])
    have HPR := Lib.hid hpr
    have HKR := Lib.hid hkr
    clear hA2
    have HMR := Lib.hid hmr
    have HLA := Lib.hid (show acc'.length = 1 + (tkL (x.ks.take k)).length by
      have := congrArg List.length hmr
      rw [List.length_map, List.length_cons] at this
      omega)
    clear hpr hkr hmr
    by_cases hlt : k < x.ks.length
    · obtain ⟨y, hy⟩ : ∃ y, x.ks[k]? = some y := ⟨_, List.getElem?_eq_getElem hlt⟩
      obtain ⟨a, e1, ya, yk, ⟨q0, q1, q2, q3⟩, hny⟩ := RdSl.elem HX.out.rd hy
      subst e1
      obtain ⟨d1, d2, d3, d4, rfl, rfl⟩ := node_cells hny
      have hc : ∀ {A : Addr} {u : Value}, w0.cell? A = some u → wr.cell? A = some u := fun h => (HPR.out.b.cell (World.block_lt_of_cell? w0 _ h)).trans h
      have q0 := hc q0
      have q1 := hc q1
      have q2 := hc q2
      have q3 := hc q3
      obtain ⟨wb, hwb⟩ : ∃ wb, wb = wr.alloc (.cells #[.string (str y.n), .slice d1 y.ats.length d2, .slice d3 y.ks.length d4, .string (str y.t)] 26) := ⟨_, rfl⟩
      have hbb : Below wr.heap.size wr wb := by rw [hwb]; exact (Below.refl _ _).alloc (Nat.le_refl _) _
      have hrow : wb.heap[wr.heap.size]? = some (.cells #[.string (str y.n), .slice d1 y.ats.length d2, .slice d3 y.ks.length d4, .string (str y.t)] 26 (0, 0)) := by rw [hwb]; exact heap_alloc_new wr _
      have HPB := Lib.hid (HPR.out.below hbb)
      have HKB := Lib.hid (HKR.out.trans (KeepX.below hbb))
      have HWB := Lib.hid hwb
      have HROWB := Lib.hid hrow
      have HTK := Lib.hid (tkL_snoc x.ks k y hy)
      have HCL := Lib.hid (HS.out y (List.mem_of_getElem? hy) w0 L V A2 v' _ _ wb hny HPB.out (by
        have h1 := tkL_le x.ks (k + 1)
        have h2 := HLA.out
        have h3 := HQ.out
        rw [HTK.out, List.length_append] at h1
        rw [HL2.out]; omega))
      have hkI : (k : Int) < (x.ks.length : Int) := by omega
      clear hc hwb hbb hrow hny hy
      go_upto_region 11 with fail
      rw [← HWB.out]
      generalize wr.heap.size = KB at HROWB ⊢
      clear q0 q1 q2 q3
      have b0 : wb.cell? ⟨KB, 0, none⟩ = some (.string (str y.n)) := by rw [cell_of_row wb _ 0 _ _ (0, 0) HROWB.out]; rfl
      have b1 : wb.cell? ⟨KB, 1, none⟩ = some (.slice d1 y.ats.length d2) := by rw [cell_of_row wb _ 1 _ _ (0, 0) HROWB.out]; rfl
      have b2 : wb.cell? ⟨KB, 2, none⟩ = some (.slice d3 y.ks.length d4) := by rw [cell_of_row wb _ 2 _ _ (0, 0) HROWB.out]; rfl
      have b3 : wb.cell? ⟨KB, 3, none⟩ = some (.string (str y.t)) := by rw [cell_of_row wb _ 3 _ _ (0, 0) HROWB.out]; rfl
      have bV := HPB.out.c
      go_wp2_with fail
      refine HCL.out.mono ?_
      rintro e w9 ⟨rfl, hk9, acc2, v2, hp9, hm9⟩
      have HP9 := Lib.hid hp9
      have HK9 := Lib.hid (HKB.out.trans hk9)
      have HM9 := Lib.hid hm9
      clear hk9 hp9 hm9 b0 b1 b2 b3 bV HCL
      go_wp2
      go_roundw
      case rel => exact ⟨k + 1, acc' ++ acc2, v2, by omega, by go_num, by rw [← List.append_assoc, ← HA2.out]; exact HP9.out, HK9.out, by rw [List.map_append, HMR.out, HM9.out, HTK.out]; rfl⟩
      case measure => simp [intOf]; omega
    · have hle : (x.ks.length : Int) ≤ k := by omega
      have HMF := Lib.hid (show acc'.map (·.1) = ⟨1, x.n, x.ats, [], 0, 0, 0⟩ :: tkL x.ks by rw [HMR.out, List.take_of_length_le (by omega)])
      have HLE := Lib.hid (show A2.length + 1 ≤ 1000000 by
        have h1 := HLA.out
        rw [List.take_of_length_le (by omega)] at h1
        have := HQ.out
        rw [HL2.out]; omega)
      obtain ⟨e1, e2, rfl⟩ := HPR.out.slice
      obtain ⟨x0, x1, x2, x3⟩ := HXC.out wr HKR.out
      have c0 := HPR.out.cell
      clear HLA
      go_wp2_with (first | (refine appP3 wr ⟨3, x.n, [], [], 0, 0, 0⟩ (.slice none 0 0) rfl (by rfl) rfl (.tmp 45) (.tmp 49) rfl (V + 1) A2.length (.slice e1 A2.length e2) _ (by simp [Act.eval, Act.put]) HPR.out.o (by simp [Act.eval, Act.put]) (by have := HLE.out; omega) (by have := HPR.out.lt; omega) ?_; intro v1 w7 o7 g7; obtain ⟨gb, gc, rfl, _, _⟩ := o7.form (by omega); have h7 : w7.heap[L]? = _ := (g7.block L (Array.getElem?_eq_some_iff.1 HPR.out.l).1 (fun e => by have := (HPR.out.o.lt _ e.symm).1; have := HPR.out.n; omega)).trans HPR.out.l; have f7 : w7.frozen? ⟨L, 0, none⟩ = false := frozen_of_row w7 _ 0 _ _ h7; have x7 : w7.cell? ⟨L, 0, none⟩ = some (.slice e1 A2.length e2) := (by rw [cell_of_row w7 _ 0 _ _ (0, 0) h7]; rfl); clear h7))
      have HP8 := Lib.hid (HPR.out.push (x := ⟨3, x.n, [], [], 0, 0, 0⟩) (va := .slice none 0 0) (.inl ⟨rfl, rfl⟩) o7 g7)
      clear f7 x7 o7 g7 c0 x0 x1 x2 x3
      go_wp2
      go_end0
      refine ⟨rfl, HK1.out.trans (HKR.out.trans HP8.out.2), acc' ++ [(⟨3, x.n, [], [], 0, 0, 0⟩, .slice none 0 0)], _, by rw [← List.append_assoc, ← HA2.out]; exact HP8.out.1, ?_⟩
      rw [List.map_append, HMF.out, HT.out]
      rfl
theorem lay_all : ∀ (m : Nat) (x : Tr), x.size ≤ m → LayS x
  | 0, x, h => by have := x.size_pos; omega
  | m + 1, x, h => lay_step x fun k hk => lay_all m k (by
    have h1 := Tr.size_mem hk
    have h2 := x.size_ks
    omega)
set_option maxRecDepth 100000 in
set_option maxHeartbeats 2000000 in
/-- tree.Print -/
theorem TPrint_any (x : Tr) (va vk : Value) (w : World) (hx : NdV w (allF w) x va vk) (hl : (tkT x).length ≤ 1000000) (hv : ∀ y ∈ tkT x, y.t.length ≤ 2000000 ∧ ∀ p ∈ y.ats, p.2.length ≤ 2000000) (hsz : (prM (tkT x)).length ≤ 100000000) :
    Calls Tryz.prog 13 #[nodeV x va vk] w fun e w' => e = .returned (.string (str (prM (tkT x)))) ∧ Below w.heap.size w w' := by
  obtain ⟨c1, c2, c3, c4, rfl, rfl⟩ := node_cells hx
  have HLAY := Lib.hid (show ∀ (L V : Nat) (v : Value) (w2 : World), P3 w L V [] v w2 → Calls Tryz.prog 28 #[nodeV x (.slice c1 x.ats.length c2) (.slice c3 x.ks.length c4), .pointer (some ⟨L, 0, none⟩), .pointer (some ⟨V, 0, none⟩)] w2 fun e w' => e = .returned (.tuple #[]) ∧ KeepX L w2 w' ∧ ∃ acc' v', P3 w L V ([] ++ acc') v' w' ∧ acc'.map (·.1) = tkT x from
    fun L V v w2 hp => lay_all x.size x (Nat.le_refl _) w L V [] v _ _ w2 hx hp (by simpa using hl))
  unfold nodeV at HLAY ⊢
  obtain ⟨w1, hw1⟩ : ∃ w1, w1 = ((w.alloc (.cells #[.string (str x.n), .slice c1 x.ats.length c2, .slice c3 x.ks.length c4, .string (str x.t)] 26)).alloc (.cells #[.slice none 0 0] 42)).alloc (.cells #[.nilFunc] 64) := ⟨_, rfl⟩
  have hs1 : w1.heap.size = w.heap.size + 1 + 1 + 1 := by rw [hw1]; simp
  have hb1 : Below w.heap.size w w1 := by rw [hw1]; exact (((Below.refl _ _).alloc (Nat.le_refl _) _).alloc (by simp) _).alloc (by simp; omega) _
  have hN1 : w1.heap[w.heap.size]? = some (.cells #[.string (str x.n), .slice c1 x.ats.length c2, .slice c3 x.ks.length c4, .string (str x.t)] 26 (0, 0)) := by
    rw [hw1, Below.heap_alloc _ _ _ (by simp; omega), Below.heap_alloc _ _ _ (by simp)]
    exact heap_alloc_new w _
  have hL1 : w1.heap[w.heap.size + 1]? = some (.cells #[.slice none 0 0] 42 (0, 0)) := by
    rw [hw1, Below.heap_alloc _ _ _ (by simp)]
    have := heap_alloc_new (w.alloc (.cells #[.string (str x.n), .slice c1 x.ats.length c2, .slice c3 x.ks.length c4, .string (str x.t)] 26)) (.cells #[.slice none 0 0] 42 (0, 0))
    simpa using this
  have hV1 : w1.heap[w.heap.size + 1 + 1]? = some (.cells #[.nilFunc] 64 (0, 0)) := by
    rw [hw1]
    have := heap_alloc_new ((w.alloc (.cells #[.string (str x.n), .slice c1 x.ats.length c2, .slice c3 x.ks.length c4, .string (str x.t)] 26)).alloc (.cells #[.slice none 0 0] 42 (0, 0))) (.cells #[.nilFunc] 64 (0, 0))
    simpa using this
  obtain ⟨F, hF⟩ : ∃ F, F = Value.func (.func 28) #[] #[.pointer (some ⟨w.heap.size + 1, 0, none⟩), .pointer (some ⟨w.heap.size + 1 + 1, 0, none⟩)] := ⟨_, rfl⟩
  obtain ⟨w2, hw2⟩ : ∃ w2, w2 = w1.setCell ⟨w.heap.size + 1 + 1, 0, none⟩ F := ⟨_, rfl⟩
  have hV2 : w2.heap[w.heap.size + 1 + 1]? = some (.cells #[F] 64 (0, 0)) := by rw [hw2]; exact heap_setCell_same w1 (w.heap.size + 1 + 1) 0 _ _ F hV1
  have hL2 : w2.heap[w.heap.size + 1]? = some (.cells #[.slice none 0 0] 42 (0, 0)) := by rw [hw2, heap_setCell_other w1 _ (w.heap.size + 1) F (fun e => by simp only at e; omega)]; exact hL1
  have hN2 : w2.heap[w.heap.size]? = some (.cells #[.string (str x.n), .slice c1 x.ats.length c2, .slice c3 x.ks.length c4, .string (str x.t)] 26 (0, 0)) := by rw [hw2, heap_setCell_other w1 _ w.heap.size F (fun e => by simp only at e; omega)]; exact hN1
  have hcV : w2.cell? ⟨w.heap.size + 1 + 1, 0, none⟩ = some F := by rw [cell_of_row w2 _ 0 _ _ (0, 0) hV2]; rfl
  have hP2 : P3 w (w.heap.size + 1) (w.heap.size + 1 + 1) [] (.slice none 0 0) w2 :=
    ⟨by rw [hw2]; exact hb1.setCell (p := ⟨w.heap.size + 1 + 1, 0, none⟩) (by simp only; omega) F, hL2, by rw [hcV, hF], World.ownsRow_nil _ _ _ _, (fun p hp => by cases hp), ⟨by omega, by omega⟩⟩
  have HCL := Lib.hid (HLAY.out _ _ _ w2 hP2)
  have f1 : w1.frozen? ⟨w.heap.size + 1 + 1, 0, none⟩ = false := frozen_of_row w1 _ 0 _ _ hV1
  have v1 : w1.cell? ⟨w.heap.size + 1 + 1, 0, none⟩ = some .nilFunc := by rw [cell_of_row w1 _ 0 _ _ (0, 0) hV1]; rfl
  have HW1 := Lib.hid hw1
  have HW2 := Lib.hid hw2
  have HF := Lib.hid hF
  have HV2 := Lib.hid hV2
  have HN2 := Lib.hid hN2
  have HV := Lib.hid hv
  have HSZ := Lib.hid hsz
  clear hw1 hw2 hl hv hsz hx hs1 hb1 hN1 hL1 hV1 hV2 hL2 hN2 hcV hP2 HLAY hF
  go_enter Tryz.func13, Tryz.ntmps13
  go_upto_region 3 with fail
  rw [← HW1.out]
  go_upto_region 4 with fail
  rw [← HF.out, ← HW2.out]
  have b0 : w2.cell? ⟨w.heap.size, 0, none⟩ = some (.string (str x.n)) := by rw [cell_of_row w2 _ 0 _ _ (0, 0) HN2.out]; rfl
  have b1 : w2.cell? ⟨w.heap.size, 1, none⟩ = some (.slice c1 x.ats.length c2) := by rw [cell_of_row w2 _ 1 _ _ (0, 0) HN2.out]; rfl
  have b2 : w2.cell? ⟨w.heap.size, 2, none⟩ = some (.slice c3 x.ks.length c4) := by rw [cell_of_row w2 _ 2 _ _ (0, 0) HN2.out]; rfl
  have b3 : w2.cell? ⟨w.heap.size, 3, none⟩ = some (.string (str x.t)) := by rw [cell_of_row w2 _ 3 _ _ (0, 0) HN2.out]; rfl
  have bV : w2.cell? ⟨w.heap.size + 1 + 1, 0, none⟩ = some (.func (.func 28) #[] #[.pointer (some ⟨w.heap.size + 1, 0, none⟩), .pointer (some ⟨w.heap.size + 1 + 1, 0, none⟩)]) := by rw [cell_of_row w2 _ 0 _ _ (0, 0) HV2.out, HF.out]; rfl
  clear f1 v1
  go_wp2_with fail
  refine HCL.out.mono ?_
  rintro e w5 ⟨rfl, hk5, acc, v5, hp5, hm5⟩
  rw [List.nil_append] at hp5
  have HP5 := Lib.hid hp5
  have c5 := hp5.cell
  have HPR := Lib.hid (Print_any v5 (acc.map (·.1)) w5 hp5.rd (fun y hy => HV.out y (by rw [← hm5]; exact hy)) (by rw [hm5]; exact HSZ.out))
  have HM5 := Lib.hid hm5
  clear hk5 hp5 hm5 b0 b1 b2 b3 bV HCL
  go_wp2_with fail
  refine HPR.out.mono ?_
  rintro e w6 ⟨rfl, hb6⟩
  rw [HM5.out]
  have HB6 := Lib.hid (HP5.out.b.trans (hb6.mono HP5.out.b.size))
  clear hb6 c5
  go_wp2
  go_ret
  exact ⟨rfl, HB6.out⟩
end
end Go.Proofs.YtpbkidmdfibaoaaGreatDoor
