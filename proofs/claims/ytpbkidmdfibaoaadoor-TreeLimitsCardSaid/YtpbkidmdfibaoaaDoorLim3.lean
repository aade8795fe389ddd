/-
  Layer 3: texts of many elements, on lists: within one another, and side by side. Own work.
-/
import Derived.Test.YtpbkidmdfibaoaaDoorCnt3
import Derived.Test.YtpbkidmdfibaoaaDoorBldB3
namespace Go.Proofs.YtpbkidmdfibaoaaDoor
set_option linter.unusedVariables false
set_option linter.unusedSimpArgs false
open Go.RowKit

def tA : List UInt8 := [60, 97, 62]
def tZ : List UInt8 := [60, 47, 97, 62]
def tB : List UInt8 := [60, 98, 47, 62]
def reps (c : List UInt8) : Nat → List UInt8
  | 0 => []
  | m + 1 => c ++ reps c m
theorem reps_snoc (c : List UInt8) : ∀ m, reps c (m + 1) = reps c m ++ c
  | 0 => by simp [reps]
  | m + 1 => by
    have := reps_snoc c m
    show c ++ reps c (m + 1) = c ++ reps c m ++ c
    rw [this, List.append_assoc]
theorem reps_len (c : List UInt8) : ∀ m, (reps c m).length = c.length * m
  | 0 => by simp [reps]
  | m + 1 => by
    have := reps_len c m
    rw [reps, List.length_append, this, Nat.mul_succ]; omega
theorem name_one3 {c d : UInt8} {e : Int} (R : List UInt8) (hc : isFirst (c.toNat : Int) = true) (hd : isName (d.toNat : Int) = false) : nameM e (c :: d :: R) = .ok [c] (d :: R) := by
  have h1 : nameL (c :: d :: R) = 1 := by
    rw [nameL, if_pos hc, List.takeWhile_cons, if_neg (by rw [hd]; simp)]
    rfl
  unfold nameM
  rw [if_neg (by simp), if_neg (by rw [h1]; decide), h1]
  rfl
theorem blanks_no3 {c : UInt8} {r : List UInt8} (h : bl c = false) : blanksM (c :: r) = c :: r := by unfold blanksM; rw [List.dropWhile_cons, if_neg (by rw [h]; simp)]
theorem attrs_no3 {c : UInt8} {r : List UInt8} (f : Nat) (h : bl c = false) : attrsM (f + 1) [] (c :: r) = .ok [] (c :: r) := by
  rw [attrsM, if_pos (blanks_no3 h)]
theorem piece_lt {o : Nat} {c : UInt8} {R : List UInt8} (h1 : noteF.isPrefixOf (60 :: c :: R) = false) (h2 : cdF.isPrefixOf (60 :: c :: R) = false) (h3 : headF.isPrefixOf (60 :: c :: R) = false) :
    pieceM o (60 :: c :: R) = if c = 47 then (closeM R).bind fun n r2 => .ok ⟨3, n, [], [], o⟩ r2 else (openM (c :: R)).bind fun x r2 => .ok ⟨x.1, x.2.1, x.2.2, [], o⟩ r2 := by
  have h4 : headM (o == 0) (60 :: c :: R) = false := by unfold headM; rw [h3]; simp
  rw [pieceM, if_neg (by decide), if_neg (by rw [h1]; simp), if_neg (by rw [h2]; simp), if_neg (by rw [h4]; simp)]
  by_cases h : c = 47
  · subst h; rfl
  · rw [if_neg (by simpa using h), if_neg h]
theorem piece_A (o : Nat) (R : List UInt8) : pieceM o (tA ++ R) = .ok ⟨1, [97], [], [], o⟩ R := by
  show pieceM o (60 :: 97 :: 62 :: R) = _
  rw [piece_lt rfl rfl rfl, if_neg (by decide)]
  have h : openM (97 :: 62 :: R) = .ok (1, [97], []) R := by
    unfold openM
    rw [name_one3 R (by kernel_rfl) (by kernel_rfl)]
    show (attrsM ((62 :: R).length + 1) [] (62 :: R)).bind _ = _
    rw [attrs_no3 _ (by kernel_rfl)]
    rfl
  rw [h]; rfl
theorem piece_B (o : Nat) (R : List UInt8) : pieceM o (tB ++ R) = .ok ⟨2, [98], [], [], o⟩ R := by
  show pieceM o (60 :: 98 :: 47 :: 62 :: R) = _
  rw [piece_lt rfl rfl rfl, if_neg (by decide)]
  have h : openM (98 :: 47 :: 62 :: R) = .ok (2, [98], []) R := by
    unfold openM
    rw [name_one3 _ (by kernel_rfl) (by kernel_rfl)]
    show (attrsM ((47 :: 62 :: R).length + 1) [] (47 :: 62 :: R)).bind _ = _
    rw [attrs_no3 _ (by kernel_rfl)]
    rfl
  rw [h]; rfl
theorem piece_Z (o : Nat) (R : List UInt8) : pieceM o (tZ ++ R) = .ok ⟨3, [97], [], [], o⟩ R := by
  show pieceM o (60 :: 47 :: 97 :: 62 :: R) = _
  rw [piece_lt rfl rfl rfl, if_pos rfl]
  have h : closeM (97 :: 62 :: R) = .ok [97] R := by
    unfold closeM
    rw [name_one3 R (by kernel_rfl) (by kernel_rfl)]
    show ((mustM 62 (blanksM (62 :: R))).bind fun _ r2 => Rs.ok [97] r2) = _
    rw [blanks_no3 (by kernel_rfl)]
    rfl
  rw [h]; rfl
theorem piece_x (o : Nat) (R : List UInt8) : pieceM o (120 :: 60 :: R) = .ok ⟨4, [], [], [120], o⟩ (60 :: R) := by
  rw [pieceM, if_pos (by decide)]
  have h : letM 60 true ((120 :: 60 :: R).length + 1) [] (120 :: 60 :: R) = .ok [120] (60 :: R) := by
    show letM 60 true (R.length + 1 + 1 + 1) [] (120 :: 60 :: R) = _
    rw [letM, if_neg (by decide), if_neg (by decide), if_neg (by rw [show tx 120 = true by kernel_rfl]; decide), letM, if_pos rfl]
    rfl
  rw [h]; rfl
/-- tokens, each so many bytes behind the one ahead -/
def run3 (k : Int) (n : List UInt8) (s : Nat) : Nat → Nat → List Tk
  | _, 0 => []
  | o, m + 1 => ⟨k, n, [], [], o⟩ :: run3 k n s (o + s) m
theorem go_reps {c : List UInt8} {k : Int} {n : List UInt8} (hc : c ≠ []) (hp : ∀ o R, pieceM o (c ++ R) = .ok ⟨k, n, [], [], o⟩ R) (l : List UInt8) : ∀ (m f o : Nat) (acc : List Tk) (R : List UInt8), (reps c m ++ R).length + o = l.length → m ≤ f →
    goM l f acc (reps c m ++ R) = goM l (f - m) (acc ++ run3 k n c.length o m) R
  | 0, f, o, acc, R, _, _ => by simp [reps, run3]
  | m + 1, 0, o, acc, R, _, h => by omega
  | m + 1, f + 1, o, acc, R, h, hf => by
    have e : reps c (m + 1) ++ R = c ++ (reps c m ++ R) := by rw [reps, List.append_assoc]
    rw [e] at h ⊢
    have hl : l.length - (c ++ (reps c m ++ R)).length = o := by omega
    rw [goM, if_neg (by intro h0; exact hc (List.append_eq_nil_iff.1 h0).1), hl, hp]
    show goM l f (acc ++ [_]) (reps c m ++ R) = _
    rw [go_reps hc hp l m f (o + c.length) _ R (by rw [List.length_append] at h; omega) (by omega), Nat.succ_sub_succ, List.append_assoc]
    rfl
theorem go_one {l r R : List UInt8} {f o : Nat} {acc : List Tk} {t : Tk} (hr : r ≠ []) (ho : r.length + o = l.length) (hp : pieceM o r = .ok t R) : goM l (f + 1) acc r = goM l f (acc ++ [t]) R := by
  rw [goM, if_neg hr, show l.length - r.length = o by omega, hp]
  rfl
theorem go_end {l : List UInt8} (f : Nat) (acc : List Tk) : goM l f acc [] = .ok acc [] := by
  cases f with
  | zero => rfl
  | succ f => rw [goM, if_pos rfl]
/-! elements within one another -/
def txD (d : Nat) : List UInt8 := reps tA d ++ reps tZ d
theorem txD_len (d : Nat) : (txD d).length = 7 * d := by unfold txD; rw [List.length_append, reps_len, reps_len]; show 3 * d + 4 * d = _; omega
theorem all_txD {d : Nat} (h : d ≤ 67) : allM (txD d) = .ok (run3 1 [97] 3 0 d ++ run3 3 [97] 4 (3 * d) d) [] := by
  unfold allM
  rw [if_neg (by rw [txD_len]; omega)]
  have hl := txD_len d
  have e : txD d = reps tA d ++ (reps tZ d ++ []) := by rw [List.append_nil]; rfl
  have h1 := go_reps (c := tA) (by decide) piece_A (txD d) d ((txD d).length + 1) 0 [] (reps tZ d ++ []) (by rw [← e]; omega) (by omega)
  have h2 := go_reps (c := tZ) (by decide) piece_Z (txD d) d ((txD d).length + 1 - d) (3 * d) ([] ++ run3 1 [97] tA.length 0 d) [] (by rw [List.append_nil, reps_len, hl]; show 4 * d + 3 * d = _; omega) (by omega)
  rw [← e] at h1
  rw [h1, h2, go_end]
  rfl
def nest : Nat → List Tr
  | 0 => []
  | k + 1 => .mk [97] [] [] [] :: nest k
theorem nest_len : ∀ k, (nest k).length = k
  | 0 => rfl
  | k + 1 => by rw [nest, List.length_cons, nest_len k]
def ch : Nat → Tr
  | 0 => .mk [97] [] [] []
  | j + 1 => .mk [97] [] [ch j] []
theorem ch_n (j : Nat) : (ch j).n = [97] := by cases j <;> rfl
theorem ch_dep : ∀ j, (ch j).dep = j + 1
  | 0 => by simp [ch, Tr.dep, Tr.deps]
  | j + 1 => by
    have := ch_dep j
    rw [ch, Tr.dep, Tr.deps, if_neg (by rw [ch_n]; simp), this, Tr.deps]; omega
theorem ch_size : ∀ j, (ch j).size = j + 1
  | 0 => by simp [ch, Tr.size, Tr.sizes]
  | j + 1 => by
    have := ch_size j
    rw [ch, Tr.size, Tr.sizes, this, Tr.sizes]; omega
theorem grow_opens (n : Nat) : ∀ (m k o : Nat) (rest : List Tk), k + m ≤ 64 → growM n ⟨nest k, none, k⟩ (run3 1 [97] 3 o m ++ rest) = growM n ⟨nest (k + m), none, k + m⟩ rest
  | 0, k, o, rest, _ => rfl
  | m + 1, k, o, rest, h => by
    have ha : addG ⟨nest k, none, k⟩ ⟨1, [97], [], [], o⟩ = .ok ⟨nest (k + 1), none, k + 1⟩ := by
      unfold addG beginG
      rw [if_pos (.inl rfl), if_neg (by simp), if_neg (by simp only [nest_len]; omega), if_neg (by show ¬ ((1 : Int) = 2); decide)]
      rfl
    show growM n _ (_ :: (run3 1 [97] 3 (o + 3) m ++ rest)) = _
    rw [grow_ok ha, grow_opens n m (k + 1) (o + 3) rest (by omega), show k + 1 + m = k + (m + 1) by omega]
theorem grow_opens_big (n : Nat) : ∀ (m k o : Nat) (rest : List Tk), k ≤ 64 → 64 < k + m → growM n ⟨nest k, none, k⟩ (run3 1 [97] 3 o m ++ rest) = .bad 2 (o + 3 * (64 - k))
  | 0, k, o, rest, h1, h2 => by omega
  | m + 1, k, o, rest, h1, h2 => by
    show growM n _ (_ :: (run3 1 [97] 3 (o + 3) m ++ rest)) = _
    by_cases hk : k = 64
    · have ha : addG ⟨nest k, none, k⟩ ⟨1, [97], [], [], o⟩ = .bad 2 := by
        unfold addG beginG
        rw [if_pos (.inl rfl), if_neg (by simp), if_pos (by simp only [nest_len]; omega)]
      rw [grow_bad ha, hk]
      rfl
    · have ha : addG ⟨nest k, none, k⟩ ⟨1, [97], [], [], o⟩ = .ok ⟨nest (k + 1), none, k + 1⟩ := by
        unfold addG beginG
        rw [if_pos (.inl rfl), if_neg (by simp), if_neg (by simp only [nest_len]; omega), if_neg (by show ¬ ((1 : Int) = 2); decide)]
        rfl
      rw [grow_ok ha, grow_opens_big n m (k + 1) (o + 3) rest (by omega) (by omega), show o + 3 + 3 * (64 - (k + 1)) = o + 3 * (64 - k) by omega]
theorem grow_closes (n c : Nat) : ∀ (m j o : Nat) (rest : List Tk), growM n ⟨ch j :: nest m, none, c⟩ (run3 3 [97] 4 o m ++ rest) = growM n ⟨[ch (j + m)], none, c⟩ rest
  | 0, j, o, rest => rfl
  | m + 1, j, o, rest => by
    have ha : addG ⟨ch j :: nest (m + 1), none, c⟩ ⟨3, [97], [], [], o⟩ = .ok ⟨ch (j + 1) :: nest m, none, c⟩ := by
      unfold addG endG
      rw [if_neg (by show ¬ ((3 : Int) = 1 ∨ (3 : Int) = 2); decide), if_pos rfl]
      dsimp only
      rw [if_pos (ch_n j)]
      rfl
    show growM n _ (_ :: (run3 3 [97] 4 (o + 4) m ++ rest)) = _
    rw [grow_ok ha, grow_closes n c m (j + 1) (o + 4) rest, show j + 1 + m = j + (m + 1) by omega]
theorem run3_snoc (k : Int) (n : List UInt8) (s : Nat) : ∀ (m o : Nat), run3 k n s o (m + 1) = run3 k n s o m ++ [⟨k, n, [], [], o + s * m⟩]
  | 0, o => by simp [run3]
  | m + 1, o => by
    have := run3_snoc k n s m (o + s)
    rw [run3, this, run3, List.cons_append, show o + s + s * m = o + s * (m + 1) by rw [Nat.mul_succ]; omega]
theorem build_txD {d : Nat} (h1 : 1 ≤ d) (h2 : d ≤ 64) : buildM (txD d) = .ok (ch (d - 1)) := by
  obtain ⟨m, rfl⟩ : ∃ m, d = m + 1 := ⟨d - 1, by omega⟩
  unfold buildM
  rw [all_txD (by omega)]
  dsimp only
  have h3 := grow_opens (txD (m + 1)).length (m + 1) 0 0 (run3 3 [97] 4 (3 * (m + 1)) (m + 1)) (by omega)
  rw [show nest 0 = [] from rfl] at h3
  rw [h3, Nat.zero_add, run3_snoc]
  have h4 := grow_closes (txD (m + 1)).length (m + 1) m 0 (3 * (m + 1)) [⟨3, [97], [], [], 3 * (m + 1) + 4 * m⟩]
  rw [show ch 0 :: nest m = nest (m + 1) from rfl] at h4
  rw [h4, Nat.zero_add]
  have ha : addG ⟨[ch m], none, m + 1⟩ ⟨3, [97], [], [], 3 * (m + 1) + 4 * m⟩ = .ok ⟨[], some (ch m), m + 1⟩ := by
    unfold addG endG
    rw [if_neg (by show ¬ ((3 : Int) = 1 ∨ (3 : Int) = 2); decide), if_pos rfl]
    dsimp only
    rw [if_pos (ch_n m)]
    rfl
  rw [grow_ok ha]
  rfl
theorem build_txD_big {d : Nat} (h1 : 64 < d) (h2 : d ≤ 67) : buildM (txD d) = .bad 2 192 := by
  unfold buildM
  rw [all_txD h2]
  dsimp only
  have h3 := grow_opens_big (txD d).length d 0 0 (run3 3 [97] 4 (3 * d) d) (by omega) (by omega)
  rw [show nest 0 = [] from rfl] at h3
  rw [h3]
/-! elements side by side -/
def xT (b : Bool) : List UInt8 := if b = true then [120] else []
def txM (m : Nat) (b : Bool) : List UInt8 := tA ++ reps tB m ++ xT b ++ tZ
theorem txM_len (m : Nat) (b : Bool) : (txM m b).length = 7 + 4 * m + (xT b).length := by
  unfold txM
  rw [List.length_append, List.length_append, List.length_append, reps_len]
  show 3 + 4 * m + (xT b).length + 4 = _
  omega
theorem all_txM {m : Nat} (b : Bool) (h : m ≤ 4099) : allM (txM m b) = .ok ([⟨1, [97], [], [], 0⟩] ++ run3 2 [98] 4 3 m ++ (if b = true then [⟨4, [], [], [120], 3 + 4 * m⟩] else []) ++ [⟨3, [97], [], [], 3 + 4 * m + (xT b).length⟩]) [] := by
  have hx : (xT b).length ≤ 1 := by cases b <;> simp [xT]
  have hl := txM_len m b
  unfold allM
  rw [if_neg (by omega)]
  have e : txM m b = tA ++ (reps tB m ++ (xT b ++ tZ)) := by unfold txM; simp
  have h1 := go_one (l := txM m b) (r := tA ++ (reps tB m ++ (xT b ++ tZ))) (f := (txM m b).length) (o := 0) (acc := []) (by simp [tA]) (by rw [← e]; rfl) (piece_A 0 _)
  have h2 := go_reps (c := tB) (by decide) piece_B (txM m b) m (txM m b).length 3 ([] ++ [⟨1, [97], [], [], 0⟩]) (xT b ++ tZ) (by
    rw [List.length_append, List.length_append, reps_len, hl]
    show 4 * m + ((xT b).length + 4) + 3 = _
    omega) (by omega)
  obtain ⟨f, hf⟩ : ∃ f, (txM m b).length - m = f + 2 := ⟨(txM m b).length - m - 2, by omega⟩
  conv => lhs; arg 4; rw [e]
  rw [h1, h2, hf]
  cases b with
  | false =>
    have h3 := go_one (l := txM m false) (r := tZ) (f := f + 1) (o := 3 + 4 * m) (acc := [] ++ [⟨1, [97], [], [], 0⟩] ++ run3 2 [98] tB.length 3 m) (by simp [tZ]) (by rw [hl]; show 4 + (3 + 4 * m) = 7 + 4 * m + 0; omega) (piece_Z _ [])
    show goM (txM m false) (f + 1 + 1) _ tZ = _
    rw [h3, go_end]
    simp [xT, tB]
  | true =>
    have h3 := go_one (l := txM m true) (r := 120 :: tZ) (f := f + 1) (o := 3 + 4 * m) (acc := [] ++ [⟨1, [97], [], [], 0⟩] ++ run3 2 [98] tB.length 3 m) (by simp) (by rw [hl]; show 5 + (3 + 4 * m) = 7 + 4 * m + 1; omega) (piece_x _ [47, 97, 62])
    have h4 := go_one (l := txM m true) (r := tZ) (f := f) (o := 3 + 4 * m + 1) (acc := [] ++ [⟨1, [97], [], [], 0⟩] ++ run3 2 [98] tB.length 3 m ++ [⟨4, [], [], [120], 3 + 4 * m⟩]) (by simp [tZ]) (by rw [hl]; show 4 + (3 + 4 * m + 1) = 7 + 4 * m + 1; omega) (piece_Z _ [])
    show goM (txM m true) (f + 1 + 1) _ (120 :: tZ) = _
    rw [h3]
    show goM (txM m true) (f + 1) _ tZ = _
    rw [h4, go_end]
    simp [xT, tB]
def bk : Tr := .mk [98] [] [] []
theorem grow_bs (n : Nat) : ∀ (m c o : Nat) (ks : List Tr) (rest : List Tk), c + m ≤ 4096 → growM n ⟨[.mk [97] [] ks []], none, c⟩ (run3 2 [98] 4 o m ++ rest) = growM n ⟨[.mk [97] [] (ks ++ List.replicate m bk) []], none, c + m⟩ rest
  | 0, c, o, ks, rest, _ => by simp [run3]
  | m + 1, c, o, ks, rest, h => by
    have ha : addG ⟨[.mk [97] [] ks []], none, c⟩ ⟨2, [98], [], [], o⟩ = .ok ⟨[.mk [97] [] (ks ++ [bk]) []], none, c + 1⟩ := by
      unfold addG beginG
      rw [if_pos (.inr rfl), if_neg (by simp), if_neg (by simp only [List.length_cons, List.length_nil]; omega), if_pos rfl]
      rfl
    show growM n _ (_ :: (run3 2 [98] 4 (o + 4) m ++ rest)) = _
    rw [grow_ok ha, grow_bs n m (c + 1) (o + 4) _ rest (by omega), show c + 1 + m = c + (m + 1) by omega, List.append_assoc, List.replicate_succ]
    rfl
theorem grow_bs_big (n : Nat) : ∀ (m c o : Nat) (ks : List Tr) (rest : List Tk), c ≤ 4096 → 4096 < c + m → ∃ q, growM n ⟨[.mk [97] [] ks []], none, c⟩ (run3 2 [98] 4 o m ++ rest) = .bad 2 q
  | 0, c, o, ks, rest, h1, h2 => by omega
  | m + 1, c, o, ks, rest, h1, h2 => by
    show ∃ q, growM n _ (_ :: (run3 2 [98] 4 (o + 4) m ++ rest)) = _
    by_cases hc : c = 4096
    · have ha : addG ⟨[.mk [97] [] ks []], none, c⟩ ⟨2, [98], [], [], o⟩ = .bad 2 := by
        unfold addG beginG
        rw [if_pos (.inr rfl), if_neg (by simp), if_pos (by simp only [List.length_cons, List.length_nil]; omega)]
      exact ⟨o, grow_bad ha⟩
    · have ha : addG ⟨[.mk [97] [] ks []], none, c⟩ ⟨2, [98], [], [], o⟩ = .ok ⟨[.mk [97] [] (ks ++ [bk]) []], none, c + 1⟩ := by
        unfold addG beginG
        rw [if_pos (.inr rfl), if_neg (by simp), if_neg (by simp only [List.length_cons, List.length_nil]; omega), if_pos rfl]
        rfl
      rw [grow_ok ha]
      exact grow_bs_big n m (c + 1) (o + 4) _ rest (by omega) (by omega)
theorem grow_fst (n : Nat) (rest : List Tk) : growM n ⟨[], none, 0⟩ (⟨1, [97], [], [], 0⟩ :: rest) = growM n ⟨[.mk [97] [] [] []], none, 1⟩ rest := grow_ok rfl
theorem sizes_rep : ∀ m, Tr.sizes (List.replicate m bk) = m
  | 0 => rfl
  | m + 1 => by
    rw [List.replicate_succ, Tr.sizes, sizes_rep m]
    show 1 + 0 + m = _
    omega
def xN (b : Bool) : Nat := if b = true then 1 else 0
theorem build_txM {m : Nat} (b : Bool) (h : m + xN b + 1 ≤ 4096) : ∃ t, buildM (txM m b) = .ok t ∧ t.size = m + xN b + 1 := by
  unfold buildM
  rw [all_txM b (by omega)]
  dsimp only
  simp only [List.append_assoc, List.singleton_append, List.cons_append, List.nil_append]
  rw [grow_fst, grow_bs _ m 1 3 [] _ (by omega)]
  have hend : ∀ (ks : List Tr) (c o : Nat), growM (txM m b).length ⟨[.mk [97] [] ks []], none, c⟩ [⟨3, [97], [], [], o⟩] = .ok (.mk [97] [] ks []) := fun ks c o => by
    rw [grow_ok (g' := ⟨[], some (.mk [97] [] ks []), c⟩) (by
      unfold addG endG
      rw [if_neg (by show ¬ ((3 : Int) = 1 ∨ (3 : Int) = 2); decide), if_pos rfl]
      dsimp only
      rw [if_pos (show (Tr.mk [97] [] ks []).n = [97] from rfl)]
      rfl)]
    rfl
  cases b with
  | false =>
    show ∃ t, growM _ _ [_] = _ ∧ _
    rw [hend]
    refine ⟨_, rfl, ?_⟩
    rw [Tr.size, List.nil_append, sizes_rep]
    show 1 + m = m + 0 + 1
    omega
  | true =>
    have hx : xN true = 1 := rfl
    show ∃ t, growM _ _ (_ :: [_]) = _ ∧ _
    have ha : addG ⟨[.mk [97] [] ([] ++ List.replicate m bk) []], none, 1 + m⟩ ⟨4, [], [], [120], 3 + 4 * m⟩ = .ok ⟨[.mk [97] [] ([] ++ List.replicate m bk ++ [.mk [] [] [] [120]]) []], none, 1 + m + 1⟩ := by
      have h1 := textG_new (g := ⟨[.mk [97] [] ([] ++ List.replicate m bk) []], none, 1 + m⟩) (s := [120]) rfl (by decide) (fun k hk => by
        have hk2 := List.mem_of_getLast? hk
        simp only [Tr.ks, List.nil_append] at hk2
        rw [(List.mem_replicate.1 hk2).2]
        decide)
      rw [if_neg (by show ¬ 4096 ≤ 1 + m; omega)] at h1
      unfold addG
      rw [if_neg (by show ¬ ((4 : Int) = 1 ∨ (4 : Int) = 2); decide), if_neg (by show ¬ ((4 : Int) = 3); decide), if_pos rfl]
      exact h1
    rw [grow_ok ha, hend]
    refine ⟨_, rfl, ?_⟩
    rw [Tr.size, Tr.sizes_app, List.nil_append, sizes_rep]
    show 1 + (m + (1 + 0 + 0)) = m + 1 + 1
    omega
theorem build_txM_big {m : Nat} (b : Bool) (hm : m ≤ 4099) (h : 4096 < m + xN b + 1) : ∃ q, buildM (txM m b) = .bad 2 q := by
  unfold buildM
  rw [all_txM b hm]
  dsimp only
  simp only [List.append_assoc, List.singleton_append, List.cons_append, List.nil_append]
  rw [grow_fst]
  by_cases hm2 : 4096 < 1 + m
  · exact grow_bs_big _ m 1 3 [] _ (by omega) hm2
  · rw [grow_bs _ m 1 3 [] _ (by omega)]
    cases b with
    | false => have : xN false = 0 := rfl; omega
    | true =>
      have hx : xN true = 1 := rfl
      have ha : addG ⟨[.mk [97] [] ([] ++ List.replicate m bk) []], none, 1 + m⟩ ⟨4, [], [], [120], 3 + 4 * m⟩ = .bad 2 := by
        have h1 := textG_new (g := ⟨[.mk [97] [] ([] ++ List.replicate m bk) []], none, 1 + m⟩) (s := [120]) rfl (by decide) (fun k hk => by
          have hk2 := List.mem_of_getLast? hk
          simp only [Tr.ks, List.nil_append] at hk2
          rw [(List.mem_replicate.1 hk2).2]
          decide)
        rw [if_pos (by show 4096 ≤ 1 + m; omega)] at h1
        unfold addG
        rw [if_neg (by show ¬ ((4 : Int) = 1 ∨ (4 : Int) = 2); decide), if_neg (by show ¬ ((4 : Int) = 3); decide), if_pos rfl]
        exact h1
      exact ⟨_, grow_bad ha⟩
end Go.Proofs.YtpbkidmdfibaoaaDoor
