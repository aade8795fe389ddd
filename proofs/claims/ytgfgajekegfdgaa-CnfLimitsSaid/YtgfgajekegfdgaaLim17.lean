/-
  Layer 17: the deals of the law on limits: n items, alike or not, which want nothing: in mathematics and in memory. Own work.
-/
import Derived.Test.YtgfgajekegfdgaaLight17
import Derived.Test.YtgfgajekegfdgaaEnc17
namespace Go.Proofs.Ytgfgajekegfdgaa
set_option linter.unusedVariables false
set_option linter.unusedSimpArgs false
open Go.RowKit

def str3 (a b c : Int) : ByteArray := str [UInt8.ofNat a.toNat, UInt8.ofNat b.toNat, UInt8.ofNat c.toNat]
def cls3 (i : Nat) : ByteArray := str3 (97 + (i : Int) % 16) (97 + (i : Int) / 16 % 16) (97 + (i : Int) / 256)
def itemN (al : Bool) (i : Nat) : It := ⟨⟨⟨#[103]⟩, ⟨#[97]⟩, ⟨#[106, 97, 114]⟩, if al = true then ⟨#[]⟩ else cls3 i⟩, ⟨#[49]⟩⟩
def itsN (al : Bool) (n : Nat) : List It := (List.range n).map (itemN al)
def limD (al : Bool) (n : Nat) : Dl := ⟨itsN al n, List.replicate n [], 0⟩
theorem itsN_len (al : Bool) (n : Nat) : (itsN al n).length = n := by unfold itsN; simp
theorem itsN_at {al : Bool} {n i : Nat} (h : i < n) : (itsN al n)[i]? = some (itemN al i) := by unfold itsN; rw [List.getElem?_map, List.getElem?_range h]; rfl
theorem cls3_inj {i k : Nat} (hi : i < 2000) (hk : k < 2000) (h : cls3 i = cls3 k) : i = k := by
  have h1 := str_inj h
  have hb : ∀ a b : Nat, a < 256 → b < 256 → UInt8.ofNat a = UInt8.ofNat b → a = b := fun a b ha hb h => by
    have := congrArg UInt8.toNat h
    rw [UInt8.toNat_ofNat', UInt8.toNat_ofNat'] at this
    omega
  simp only [List.cons.injEq, and_true] at h1
  obtain ⟨a1, a2, a3⟩ := h1
  have b1 := hb _ _ (by omega) (by omega) a1
  have b2 := hb _ _ (by omega) (by omega) a2
  have b3 := hb _ _ (by omega) (by omega) a3
  omega
theorem lim_same {al : Bool} {n i k : Nat} (hn : n ≤ 1100) (hi : i < n) (hk : k < n) : sameAt (itsN al n) i k = (al || decide (i = k)) := by
  rw [sameAt_is (itsN_at hi) (itsN_at hk), Bool.eq_iff_iff, sameK_eq]
  cases al
  · simp only [itemN, Bool.false_eq_true, if_false, Bool.false_or, decide_eq_true_eq]
    constructor
    · intro h
      have := congrArg Ky.c h
      exact (cls3_inj (by omega) (by omega) this).symm
    · rintro rfl; rfl
  · simp [itemN]
theorem lim_cnt {al : Bool} {n : Nat} (hn : n ≤ 1100) : ∀ k, k < n → cntB (itsN al n) k = if al = true then k else 0 := by
  intro k hk
  unfold cntB
  rw [sumN_congr (g := fun _ => if al = true then 1 else 0) k (fun i hi => by
    rw [lim_same hn (by omega) hk]
    have : decide (i = k) = false := by simp; omega
    rw [this, Bool.or_false])]
  have hc : ∀ (c : Nat) m, sumN (fun _ => c) m = m * c := fun c m => by
    induction m with
    | zero => simp [sumN]
    | succ m ih => simp only [sumN, ih, Nat.succ_mul]
  rw [hc]
  cases al <;> simp
theorem lim_sum {al : Bool} {n : Nat} (hn : n ≤ 1100) : sumN (cntB (itsN al n)) n = if al = true then sumN (fun k => k) n else 0 := by
  rw [sumN_congr (g := fun k => if al = true then k else 0) n (fun i hi => lim_cnt hn i hi)]
  cases al
  · have hc : ∀ m, sumN (fun _ => 0) m = 0 := fun m => by
      induction m with
      | zero => rfl
      | succ m ih => simp only [sumN, ih]
    simpa using hc n
  · simp
theorem sum_tri : ∀ n : Nat, (n : Int) * ((n : Int) - 1) = 2 * ((sumN (fun k => k) n : Nat) : Int)
  | 0 => by simp [sumN]
  | n + 1 => by
    have ih := sum_tri n
    have e : sumN (fun k => k) (n + 1) = sumN (fun k => k) n + n := rfl
    rw [e]
    have : ((n + 1 : Nat) : Int) * (((n + 1 : Nat) : Int) - 1) = (n : Int) * ((n : Int) - 1) + 2 * n := by
      have h1 : ((n + 1 : Nat) : Int) - 1 = n := by omega
      rw [h1, Int.mul_sub, show ((n + 1 : Nat) : Int) = (n : Int) + 1 by omega, Int.add_mul]
      omega
    rw [this, ih]
    omega
theorem tri_le (n : Nat) (hn : n ≤ 1027) : sumN (fun k => k) n ≤ 1054729 := by
  have := sumN_le (f := fun k => k) (b := 1027) n (fun i hi => by omega)
  have h2 : n * 1027 ≤ 1027 * 1027 := Nat.mul_le_mul hn (Nat.le_refl _)
  omega
theorem lim_len (al : Bool) (n : Nat) : lenTo (limD al n).ws (limD al n).ws.length = 0 := by
  have hl : ∀ k, lenTo (limD al n).ws k = 0 := fun k => by
    unfold lenTo
    rw [sumN_congr (g := fun _ => 0) k (fun i hi => by
      show ((List.replicate n ([] : List (List Int))).getD i []).length = 0
      rw [List.getD_eq_getElem?_getD, List.getElem?_replicate]
      split <;> rfl)]
    induction k with
    | zero => rfl
    | succ m ih => simp only [sumN, ih]
  exact hl _
theorem lim_size {al : Bool} {n : Nat} (hn : n ≤ 1027) : sizeD (limD al n) = 1 + if al = true then sumN (fun k => k) n else 0 := by
  unfold sizeD
  rw [lim_len]
  show 1 + 0 + sumN (cntB (itsN al n)) (itsN al n).length = _
  rw [itsN_len, lim_sum (by omega)]
theorem lim_may {al : Bool} {n : Nat} (h0 : 1 ≤ n) : mayD (limD al n) = if 1024 < n then 2 else 0 := by
  by_cases h : 1024 < n
  · rw [if_pos h, mayD_big (by show 1024 < (itsN al n).length; rw [itsN_len]; exact h)]
  · rw [if_neg h]
    refine mayD_ok (by show ¬ 1024 < (itsN al n).length; rw [itsN_len]; exact h) (inB_yes (Int.le_refl 0) (by show (0 : Int) < (itsN al n).length; rw [itsN_len]; omega)) (by show (List.replicate n ([] : List (List Int))).length = (itsN al n).length; rw [itsN_len]; simp) ?_
    refine List.all_eq_true.2 fun x hx => ?_
    rw [(List.mem_replicate.1 hx).2]; rfl
theorem lim_few (al : Bool) (n : Nat) : fewW (limD al n).ws := by
  intro ws h
  rw [(List.mem_replicate.1 h).2]
  exact ⟨by simp, fun w hw => by simp at hw⟩
theorem lim_ok (al : Bool) (n : Nat) : ∀ x ∈ (limD al n).its, okIt x := by
  intro x h
  obtain ⟨i, _, rfl⟩ := List.mem_map.1 h
  refine ⟨?_, ?_, ?_, ?_, ?_⟩
  · show (⟨#[103]⟩ : ByteArray).size ≤ _; decide
  · show (⟨#[97]⟩ : ByteArray).size ≤ _; decide
  · show (⟨#[106, 97, 114]⟩ : ByteArray).size ≤ _; decide
  · cases al
    · show (cls3 i).size ≤ _
      unfold cls3 str3
      rw [size_str]; simp
    · show (⟨#[]⟩ : ByteArray).size ≤ _; decide
  · show (⟨#[49]⟩ : ByteArray).size ≤ _; decide
/-! in memory -/
def rowI (l : List It) : List Value := l.flatMap itCells
theorem rowI_len : ∀ l : List It, (rowI l).length = l.length * 5
  | [] => rfl
  | e :: l => by
    have := rowI_len l
    simp only [rowI, List.flatMap_cons, List.length_append, List.length_cons, itCells, List.length_nil] at this ⊢
    omega
theorem rowI_at : ∀ (l : List It) (i c : Nat) (p : It), l[i]? = some p → c < 5 → (rowI l)[i * 5 + c]? = (itCells p)[c]?
  | [], i, c, p, h, _ => by simp at h
  | q :: l, 0, c, p, h, hc => by
    simp only [List.getElem?_cons_zero, Option.some.injEq] at h
    subst h
    simp only [rowI, List.flatMap_cons]
    rw [List.getElem?_append_left (by simp [itCells]; omega)]
    simp
  | q :: l, i + 1, c, p, h, hc => by
    have := rowI_at l i c p (by simpa using h) hc
    simp only [rowI, List.flatMap_cons] at this ⊢
    rw [List.getElem?_append_right (by simp [itCells]; omega), ← this]
    congr 1
    simp [itCells]; omega
theorem itsN_snoc (al : Bool) (k : Nat) : rowI (itsN al (k + 1)) = rowI (itsN al k) ++ itCells (itemN al k) := by
  unfold rowI itsN
  rw [List.range_succ, List.map_append, List.flatMap_append]; simp
theorem RdI.of_own {w : World} {v : Value} {l : List It} {base e : Nat} (h : w.ownsRow base e 5 v l.length (rowI l)) : RdI w v l := by
  have h0 := h
  obtain ⟨_, hc⟩ := h
  rcases hc with ⟨rfl, hn⟩ | ⟨g, cap, cur, rfl, _, hg, hn, hcm, _, _⟩
  · exact .inl ⟨rfl, List.eq_nil_of_length_eq_zero hn⟩
  · exact .inr ⟨⟨g, 0, none⟩, cap, rfl, hn, by unfold maxLen at hcm; exact hcm, fun i x hx c u hu => h0.cells (g := g) rfl _ u ((rowI_at l i c x hx (by have := (List.getElem?_eq_some_iff.1 hu).1; simpa [itCells] using this)).trans hu)⟩
theorem Rd3.nils {w : World} {v : Value} {n base e : Nat} (h : w.ownsRow base e 1 v n (List.replicate n (.slice none 0 0))) : Rd3 w v (List.replicate n []) := by
  have h0 := h
  obtain ⟨_, hc⟩ := h
  rcases hc with ⟨rfl, hn⟩ | ⟨g, cap, cur, rfl, _, hg, hn, hcm, _, _⟩
  · subst hn; exact .inl ⟨rfl, rfl⟩
  · refine .inr ⟨⟨g, 0, none⟩, cap, by rw [List.length_replicate], by rw [List.length_replicate]; exact hn, by unfold maxLen at hcm; exact hcm, fun j x hx => ⟨.slice none 0 0, ?_, ?_⟩⟩
    · refine h0.cells (g := g) rfl _ _ ?_
      have := (List.getElem?_eq_some_iff.1 hx).1
      rw [List.getElem?_replicate, if_pos (by simpa using this)]
    · have := List.mem_replicate.1 (List.mem_of_getElem? hx)
      rw [this.2]; exact .inl ⟨rfl, rfl⟩
theorem own_block {w : World} {base e size n b : Nat} {v : Value} {xs : List Value} (h : w.ownsRow base e size v n xs) (hb : some b = v.ownBlock) : ∃ cur, w.heap[b]? = some (Obj.cells cur e (0, 0)) := by
  rcases h.2 with ⟨rfl, _⟩ | ⟨g, cap, cur, rfl, _, hg, _⟩
  · simp [Value.ownBlock] at hb
  · simp [Value.ownBlock] at hb
    subst hb
    exact ⟨cur, hg⟩
theorem own_sep {w : World} {base e size n b t : Nat} {v : Value} {xs : List Value} {cs : Array Value} (h : w.ownsRow base e size v n xs) (ho : w.heap[b]? = some (Obj.cells cs t (0, 0))) (ht : t ≠ e) : some b ≠ v.ownBlock := by
  intro hb
  obtain ⟨cur, hc⟩ := own_block h hb
  rw [ho] at hc
  simp at hc
  exact ht hc.2
theorem own_two {w : World} {base base' e e' size size' n n' : Nat} {v v' : Value} {xs xs' : List Value} (h : w.ownsRow base e size v n xs) (h' : w.ownsRow base' e' size' v' n' xs') (ht : e ≠ e') : v.ownBlock = none ∨ v.ownBlock ≠ v'.ownBlock := by
  cases hb : v.ownBlock with
  | none => exact .inl rfl
  | some b =>
    obtain ⟨cur, hc⟩ := own_block h hb.symm
    exact .inr (own_sep h' hc ht)
/-- one of a deal's two rows is put anew into the variable -/
theorem deal_put {w0 w2 : World} {D base e e' size size' n n' m : Nat} {c : Nat} {cs : Array Value} {v v' v1 : Value} {xs xs' ys : List Value} (hD : w0.heap[D]? = some (Obj.cells cs 25 (0, 0)))
    (h : w0.ownsRow base e size v n xs) (h' : w0.ownsRow base e' size' v' n' xs') (ho : w2.ownsRow base e size v1 m ys) (hg : w0.grownBy w2 v.ownBlock) (he : 25 ≠ e) (he' : 25 ≠ e') (hee : e' ≠ e) :
    w2.heap[D]? = some (Obj.cells cs 25 (0, 0)) ∧ (w2.setCell ⟨D, c, none⟩ v1).heap[D]? = some (Obj.cells (cs.setIfInBounds c v1) 25 (0, 0)) ∧ (w2.setCell ⟨D, c, none⟩ v1).ownsRow base e size v1 m ys ∧ (w2.setCell ⟨D, c, none⟩ v1).ownsRow base e' size' v' n' xs' := by
  have hD2 := (hg.block D (Array.getElem?_eq_some_iff.1 hD).1 (own_sep h hD he)).trans hD
  have hsg : w2.grownBy (w2.setCell ⟨D, c, none⟩ v1) (some D) := ⟨rfl, rfl, rfl, by simp, fun k _ hk => heap_setCell_other w2 ⟨D, c, none⟩ k v1 (fun e => hk (by simp [e]))⟩
  have hk := h'.kept hg (own_two h' h hee)
  refine ⟨hD2, heap_setCell_same w2 D c _ _ v1 hD2, ho.kept hsg (.inr (own_sep ho hD2 he).symm), hk.kept hsg (.inr (own_sep hk hD2 he').symm)⟩
theorem item_info : (Try.prog.info? 50).map (fun i => (i.zero, i.size, i.bytes)) = some (some (.agg #[.string .empty, .string .empty, .string .empty, .string .empty, .string .empty]), 5, 80) := by kernel_rfl
theorem wants_info : (Try.prog.info? 32).map (fun i => (i.zero, i.size, i.bytes)) = some (some (.slice none 0 0), 1, 24) := by kernel_rfl
theorem appI {ops : Array Oper} {rest : List Oper} {o : Oper} {a : Act} {Q : Exit → Act → World → Prop} {w0 : World} (p : It) (hgd : o.guard = none) (s x : Operand)
    (ho : o.op = .call { callee := .builtin .append, args := #[s, x], argTypes := #[22, 22] }) (base n : Nat)
    (v : Value) (xs : List Value) (hs : a.eval s = v) (hown : w0.ownsRow base 50 5 v n xs) (hx : a.eval x = .slice (some ⟨w0.heap.size, 0, none⟩) 1 1)
    (h63 : n ≤ 100000) (hbase : base ≤ w0.heap.size)
    (h : ∀ v' w', w'.ownsRow base 50 5 v' (n + 1) (xs ++ itCells p) → w0.grownBy w' v.ownBlock → Below base w0 w' → wpList Try.prog ops Q rest (a.put o.dst v') w') :
    wpList Try.prog ops Q (o :: rest) a (w0.alloc (.cells #[.string p.k.g, .string p.k.a, .string p.k.t, .string p.k.c, .string p.v] 50)) := by
  obtain ⟨i, hi, hz, hsize, hby⟩ := info_parts item_info
  have hlt : ∀ k, v.ownBlock = some k → base ≤ k := fun k hk => (hown.lt k hk).1
  refine wpList_append_own _ hgd s x _ ho base 50 i _ 5 80 Try.underlying22 hi hz hsize hby rfl (by omega) v n xs hs (hown.alloc _) ⟨w0.heap.size, 0, none⟩ 1 1 (itCells p) hx rfl ?_ ?_ (by simp only [maxLen]; omega) (by omega) (by simp; omega) ?_
  · intro j y hj
    rw [show (⟨w0.heap.size, 0, none⟩ : Addr).add j = ⟨w0.heap.size, j, none⟩ by unfold Addr.add; split <;> simp_all, World.cell?_alloc_at _ _ _ _ rfl]
    simpa [itCells] using hj
  · intro u hu
    simp only [itCells, List.mem_cons, List.not_mem_nil, or_false] at hu
    rcases hu with rfl | rfl | rfl | rfl | rfl <;> rfl
  · intro v' w' ho' hg _
    have hg0 : w0.grownBy w' v.ownBlock := ⟨hg.os, hg.tape, hg.output, Nat.le_trans (by simp) hg.size, fun k hk hne => (hg.block k (by simp; omega) hne).trans (Below.heap_alloc _ _ _ hk)⟩
    exact h v' w' ho' hg0 ((Below.refl _ _).grown hg0 hbase hlt)
/-- block D is the law's deal after k items -/
def LimS (w : World) (D : Nat) (al : Bool) (k : Nat) : Prop :=
  ∃ vi vw, w.heap[D]? = some (Obj.cells #[vi, vw, .int .i64 0] 25 (0, 0)) ∧ w.ownsRow D 50 5 vi k (rowI (itsN al k)) ∧ w.ownsRow D 32 1 vw k (List.replicate k (.slice none 0 0))
theorem LimS.below {w w' : World} {D k : Nat} {al : Bool} {vi vw : Value} (hb : Below w.heap.size w w') (h : w.heap[D]? = some (Obj.cells #[vi, vw, .int .i64 0] 25 (0, 0)) ∧ w.ownsRow D 50 5 vi k (rowI (itsN al k)) ∧ w.ownsRow D 32 1 vw k (List.replicate k (.slice none 0 0))) :
    w'.heap[D]? = some (Obj.cells #[vi, vw, .int .i64 0] 25 (0, 0)) ∧ w'.ownsRow D 50 5 vi k (rowI (itsN al k)) ∧ w'.ownsRow D 32 1 vw k (List.replicate k (.slice none 0 0)) := by
  have hg : w.grownBy w' none := ⟨hb.os, hb.tape, hb.output, hb.size, fun k hk _ => hb.block k hk⟩
  exact ⟨(hb.block D (Array.getElem?_eq_some_iff.1 h.1).1).trans h.1, h.2.1.kept hg (by cases hv : vi.ownBlock <;> simp), h.2.2.kept hg (by cases hv : vw.ownBlock <;> simp)⟩
theorem conv3 (w : World) (a b c : Int) : (convert 48 9 (.slice (some ⟨w.heap.size, 0, none⟩) 3 3)).run Try.prog (w.alloc (.cells #[.int .u8 a, .int .u8 b, .int .u8 c] 5)) = .ok (.string (str3 a b c)) (w.alloc (.cells #[.int .u8 a, .int .u8 b, .int .u8 c] 5)) :=
  run_convert_bytes_arg (P := Try.prog) (w.alloc (.cells #[.int .u8 a, .int .u8 b, .int .u8 c] 5)) 48 5 Try.underlying48 Try.underlying5 w.heap.size 0 3 3 [a, b, c] rfl (fun i hi => by
    match i with
    | 0 => simp [go_sem]
    | 1 => simp [go_sem]
    | 2 => simp [go_sem]
    | i + 3 => omega) 9 Try.underlying9
/-- what Encode answers of such a deal -/
def EncLim (al : Bool) (n : Nat) (w : World) (e : Ending) (w' : World) : Prop :=
  Below w.heap.size w w' ∧ ((1024 < n ∧ e = .returned (.tuple #[.agg #[.int .i64 0, .slice none 0 0], .int .i64 2])) ∨
    (n ≤ 1024 ∧ al = true ∧ 16383 < sumN (fun k => k) n ∧ e = .returned (.tuple #[.agg #[.int .i64 0, .slice none 0 0], .int .i64 2])) ∨
    (n ≤ 1024 ∧ (al = true → sumN (fun k => k) n ≤ 16383) ∧ ∃ a c, e = .returned (.tuple #[.agg #[.int .i64 n, .slice a (1 + if al = true then sumN (fun k => k) n else 0) c], .int .i64 0])))
theorem enc_lim (al : Bool) (n : Nat) (h0 : 1 ≤ n) (hn : n ≤ 1027) (vi vw : Value) (w : World) (hr : RdD w vi vw (limD al n)) :
    Calls Try.prog 13 #[.agg #[vi, vw, .int .i64 0]] w (EncLim al n w) := by
  have hl : (limD al n).its.length = n := itsN_len al n
  have hw : (limD al n).ws.length = n := by show (List.replicate n ([] : List (List Int))).length = n; simp
  refine (Encode_any (limD al n) vi vw (lim_few al n) (by omega) (by omega) (lim_ok al n) w hr).mono ?_
  have hs := lim_size (al := al) hn
  have hm := lim_may (al := al) h0
  rintro e w' (⟨h1, rfl, hb⟩ | ⟨h1, h2, rfl, hb⟩ | ⟨h1, h2, v, lo, rfl, _, hrows, hb⟩)
  · refine ⟨hb, .inl ?_⟩
    rw [hm] at h1 ⊢
    by_cases h : 1024 < n
    · rw [if_pos h]; exact ⟨h, rfl⟩
    · rw [if_neg h] at h1; exact absurd rfl h1
  · refine ⟨hb, .inr (.inl ?_)⟩
    rw [hm] at h1
    rw [hs] at h2
    refine ⟨by split at h1 <;> omega, ?_⟩
    cases al
    · simp at h2
    · rw [if_pos rfl] at h2; exact ⟨rfl, by omega, rfl⟩
  · refine ⟨hb, .inr (.inr ?_)⟩
    rw [hm] at h1
    obtain ⟨a, c, rfl⟩ := rows_shape hrows
    rw [encL_size, hs, hl]
    refine ⟨by split at h1 <;> omega, fun ha => ?_, a, c, rfl⟩
    rw [hs, if_pos ha] at h2; omega
theorem may_lim (al : Bool) (n : Nat) (h0 : 1 ≤ n) (vi vw : Value) (w : World) (hr : RdD w vi vw (limD al n)) :
    Calls Try.prog 11 #[.agg #[vi, vw, .int .i64 0]] w fun e w' => e = .returned (.int .i64 (if 1024 < n then 2 else 0)) ∧ Below w.heap.size w w' := by
  refine (May_any (limD al n) vi vw w hr).mono ?_
  rintro e w' ⟨rfl, hb⟩
  rw [lim_may h0]
  exact ⟨rfl, hb⟩
end Go.Proofs.Ytgfgajekegfdgaa
