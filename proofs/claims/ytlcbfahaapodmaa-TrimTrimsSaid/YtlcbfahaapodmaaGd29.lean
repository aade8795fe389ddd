/-
  Layer 29: the clauses that are there, and their counts; appends to the work's rows. Own work.
-/
import Derived.Test.YtlcbfahaapodmaaDr29
import Derived.Deep.AppendLies
namespace Go.Proofs.Ytlcbfahaapodmaa
set_option linter.unusedVariables false
set_option linter.unusedSimpArgs false
open Go.RowKit

/-- the clauses that are not gone -/
def alive : Cs → List Bool → Cs
  | c :: L, g :: G => if g then alive L G else c :: alive L G
  | _, _ => []
theorem alive_set : ∀ {L : Cs} {G : List Bool} {i : Nat} {c : List Int}, L[i]? = some c → G[i]? = some false → ∃ A B, alive L G = A ++ c :: B ∧ alive L (G.set i true) = A ++ B
  | d :: L, g :: G, 0, c, hc, hg => by
    simp at hc hg
    subst hc; subst hg
    exact ⟨[], alive L G, by simp [alive], by simp [alive]⟩
  | d :: L, g :: G, i + 1, c, hc, hg => by
    obtain ⟨A, B, h1, h2⟩ := alive_set (L := L) (G := G) (i := i) (by simpa using hc) (by simpa using hg)
    cases g with
    | true => exact ⟨A, B, by simp [alive, h1], by simp [alive, h2]⟩
    | false => exact ⟨d :: A, B, by simp [alive, h1], by simp [alive, h2]⟩
  | [], _, _, _, hc, _ => by simp at hc
  | _ :: _, [], _, _, _, hg => by simp at hg
theorem alive_mem {L : Cs} {G : List Bool} {c : List Int} : c ∈ alive L G ↔ ∃ i : Nat, L[i]? = some c ∧ G[i]? = some false := by
  induction L generalizing G with
  | nil => simp [alive]
  | cons d L ih =>
    cases G with
    | nil => simp [alive]
    | cons g G =>
      constructor
      · intro h
        cases g with
        | true =>
          obtain ⟨i, h1, h2⟩ := ih.1 (by simpa [alive] using h)
          exact ⟨i + 1, by simpa using h1, by simpa using h2⟩
        | false =>
          simp only [alive, Bool.false_eq_true, if_false, List.mem_cons] at h
          rcases h with rfl | h
          · exact ⟨0, rfl, rfl⟩
          · obtain ⟨i, h1, h2⟩ := ih.1 h
            exact ⟨i + 1, by simpa using h1, by simpa using h2⟩
      · rintro ⟨i, h1, h2⟩
        cases i with
        | zero =>
          simp at h1 h2
          subst h1; subst h2
          simp [alive]
        | succ i =>
          have := ih.2 ⟨i, by simpa using h1, by simpa using h2⟩
          cases g <;> simp [alive, this]
theorem alive_sub {L : Cs} {G : List Bool} {c : List Int} (h : c ∈ alive L G) : c ∈ L := by
  obtain ⟨i, h1, _⟩ := alive_mem.1 h
  exact List.mem_of_getElem? h1
/-- how often place a stands in clauses -/
def sumN (vars : Nat) (C : Cs) (a : Nat) : Nat := (C.map fun c => occN vars c a).sum
theorem sumN_app (vars : Nat) (A B : Cs) (a : Nat) : sumN vars (A ++ B) a = sumN vars A a + sumN vars B a := by simp [sumN]
theorem sumN_cons (vars : Nat) (c : List Int) (B : Cs) (a : Nat) : sumN vars (c :: B) a = occN vars c a + sumN vars B a := by simp [sumN]
theorem sizeC_app (A B : Cs) : sizeC (A ++ B) = sizeC A + sizeC B := by simp [sizeC]
theorem sumN_le (vars : Nat) (C : Cs) (a : Nat) : sumN vars C a ≤ sizeC C := by
  induction C with
  | nil => simp [sumN]
  | cons c C ih =>
    rw [sumN_cons, sizeC_cons]
    have := occN_le vars c a
    omega
theorem alive_size (L : Cs) (G : List Bool) : sizeC (alive L G) ≤ sizeC L := by
  induction L generalizing G with
  | nil => simp [alive]
  | cons d L ih =>
    cases G with
    | nil => simp [alive, sizeC]
    | cons g G =>
      have := ih G
      cases g <;> simp only [alive, if_true, Bool.false_eq_true, if_false, sizeC_cons] <;> omega
theorem size_mem {C : Cs} {c : List Int} (h : c ∈ C) : c.length + 1 ≤ sizeC C := by
  induction C with
  | nil => simp at h
  | cons d C ih =>
    rw [sizeC_cons]
    rcases List.mem_cons.1 h with rfl | h
    · omega
    · have := ih h; omega
theorem size_len (C : Cs) : C.length ≤ sizeC C := by
  induction C with
  | nil => simp
  | cons d C ih => rw [sizeC_cons, List.length_cons]; omega
/-- what the steps keep of sizes and counts -/
structure Gd (S : Ws) : Prop where
  gl : S.G.length = S.L.length
  vars : S.vars ≤ 100000
  lits : ∀ c ∈ S.L, ∀ n ∈ c, -(S.vars : Int) ≤ n ∧ n ≤ (S.vars : Int) ∧ n ≠ 0
  size : sizeC S.L ≤ 1000000
  cnt : ∀ a, S.cn a = (sumN S.vars (alive S.L S.G) a : Int)
theorem Gd.cn {S : Ws} (h : Gd S) (a : Nat) : 0 ≤ S.cn a ∧ S.cn a ≤ 1000000 := by
  have h1 := sumN_le S.vars (alive S.L S.G) a
  have h2 := alive_size S.L S.G
  have h3 := h.size
  have h4 := h.cnt a
  omega
theorem dropS_same (S : Ws) (i : Nat) : (dropS S i).L = S.L ∧ (dropS S i).vars = S.vars ∧ (dropS S i).st = S.st ∧ (dropS S i).fx = S.fx ∧ (dropS S i).pl = S.pl ∧ (dropS S i).G.length = S.G.length := by
  unfold dropS
  split <;> simp
theorem Gd.drop {S : Ws} (h : Gd S) (i : Nat) : Gd (dropS S i) := by
  cases hg : S.G.getD i false with
  | true =>
    unfold dropS
    rw [if_pos hg]
    exact h
  | false =>
    unfold dropS
    rw [if_neg (by rw [hg]; simp)]
    refine ⟨by simpa using h.gl, h.vars, h.lits, h.size, fun a => ?_⟩
    show S.cn a - (occN S.vars (S.L.getD i []) a : Int) = (sumN S.vars (alive S.L (S.G.set i true)) a : Int)
    by_cases hi : i < S.L.length
    · obtain ⟨A, B, h1, h2⟩ := alive_set (L := S.L) (G := S.G) (i := i) (c := S.L.getD i []) (by simp [List.getD, hi]) (by
        have hiG : i < S.G.length := by rw [h.gl]; exact hi
        rw [List.getElem?_eq_getElem hiG]
        simp only [List.getD, List.getElem?_eq_getElem hiG, Option.getD_some] at hg
        rw [hg])
      have h3 := h.cnt a
      rw [h1, sumN_app, sumN_cons] at h3
      rw [h2, sumN_app, h3]
      omega
    · have e1 : S.L.getD i [] = [] := by simp [List.getD, List.getElem?_eq_none (Nat.not_lt.1 hi)]
      have e2 : S.G.set i true = S.G := List.set_eq_of_length_le (by rw [h.gl]; omega)
      rw [e1, e2, h.cnt a]
      simp [occN]
def dropsS (S : Ws) (l : List Nat) : Ws := l.foldl dropS S
theorem dropsS_snoc (S : Ws) (l : List Nat) (k : Nat) : dropsS S (l ++ [k]) = dropS (dropsS S l) k := by simp [dropsS]
theorem dropsS_same (S : Ws) (l : List Nat) : (dropsS S l).L = S.L ∧ (dropsS S l).vars = S.vars ∧ (dropsS S l).st = S.st ∧ (dropsS S l).fx = S.fx ∧ (dropsS S l).pl = S.pl ∧ (dropsS S l).G.length = S.G.length := by
  induction l using snoc_ind with
  | h0 => simp [dropsS]
  | h1 l k ih =>
    rw [dropsS_snoc]
    obtain ⟨a1, a2, a3, a4, a5, a6⟩ := dropS_same (dropsS S l) k
    obtain ⟨b1, b2, b3, b4, b5, b6⟩ := ih
    exact ⟨a1.trans b1, a2.trans b2, a3.trans b3, a4.trans b4, a5.trans b5, a6.trans b6⟩
theorem Gd.drops {S : Ws} (h : Gd S) (l : List Nat) : Gd (dropsS S l) := by
  induction l using snoc_ind with
  | h0 => exact h
  | h1 l k ih => rw [dropsS_snoc]; exact ih.drop k
/-- which are gone behind drops -/
theorem dropsS_gone (S : Ws) (l : List Nat) (j : Nat) : (dropsS S l).G[j]? = (S.G[j]?).map fun b => b || decide (j ∈ l) := by
  induction l using snoc_ind with
  | h0 => cases h : S.G[j]? <;> simp [dropsS, h]
  | h1 l k ih =>
    rw [dropsS_snoc]
    have hlen := (dropsS_same S l).2.2.2.2.2
    have e : (dropS (dropsS S l) k).G[j]? = ((dropsS S l).G[j]?).map fun b => b || decide (j = k) := by
      unfold dropS
      by_cases hk : (dropsS S l).G.getD k false = true
      · rw [if_pos hk]
        by_cases hjk : j = k
        · subst hjk
          cases hq : (dropsS S l).G[j]? with
          | none => rfl
          | some b =>
            simp only [List.getD, hq, Option.getD_some] at hk
            simp [hk]
        · cases hq : (dropsS S l).G[j]? <;> simp [hjk]
      · rw [if_neg hk]
        show ((dropsS S l).G.set k true)[j]? = _
        rw [List.getElem?_set]
        by_cases hjk : k = j
        · subst hjk
          rw [if_pos rfl]
          by_cases hl : k < (dropsS S l).G.length
          · rw [if_pos hl, List.getElem?_eq_getElem hl]; simp
          · rw [if_neg hl, List.getElem?_eq_none (Nat.not_lt.1 hl)]; rfl
        · rw [if_neg hjk]
          have : j ≠ k := fun e => hjk e.symm
          cases hq : (dropsS S l).G[j]? <;> simp [this]
    rw [e, ih]
    cases hq : S.G[j]? with
    | none => rfl
    | some b =>
      simp only [Option.map_some, Option.some.injEq]
      by_cases h1 : j ∈ l <;> by_cases h2 : j = k <;> simp [h1, h2]
section
variable {w w1 : World} {n0 : Nat} {M : Wm} {S : Ws} {ex : Tw → Prop}
/-- a row behind an append: whose it is -/
theorem KW.grow (h : KW w n0 M S ex) {v' : Value} {t : Tw} (ht : isRow t = true) (hcl : isCl t = false) (hg : w.grownBy w1 (M.hd t).ownBlock) (hat : v'.ownBlock = (M.hd t).ownBlock ∨ ∃ k, v'.ownBlock = some k ∧ w.heap.size ≤ k ∧ k < w1.heap.size) :
    ∃ f, KW w1 n0 { M with tag := f } S (orW ex t) ∧ (∀ b, v'.ownBlock = some b → f b = t) ∧ (∀ b, b < w.heap.size → f b = M.tag b) := by
  have h1 : KW w1 n0 M S (orW ex t) := h.keep hg (fun s _ hx => hx.elim .inl (fun ⟨b, hb, hs⟩ => .inr (by rw [← hs]; exact h.thn ht hcl hb)))
  rcases hat with hat | ⟨k, hk, hk1, hk2⟩
  · exact ⟨M.tag, h1, fun b hb => h.thn ht hcl (hat ▸ hb), fun _ _ => rfl⟩
  · have hf : M.tag k = .free := h.fresh k hk1
    refine ⟨tagW M.tag k t, h1.retag hf (Nat.le_trans h.base hk1) hk2, fun b hb => ?_, fun b hb => ?_⟩
    · rw [hk] at hb
      cases hb
      unfold tagW
      rw [if_pos rfl]
    · unfold tagW
      rw [if_neg (by omega)]
def putH (hd : Tw → Value) (t : Tw) (v : Value) : Tw → Value := fun s => if s = t then v else hd s
theorem putH_same (hd : Tw → Value) (t : Tw) (v : Value) : putH hd t v t = v := by unfold putH; rw [if_pos rfl]
theorem putH_ne (hd : Tw → Value) {t s : Tw} (v : Value) (h : s ≠ t) : putH hd t v s = hd s := by unfold putH; rw [if_neg h]
theorem own_put {base : Nat} {e : TypeId} {v u : Value} {n : Nat} {xs : List Value} {a : Addr} (ho : w.ownsRow base e 1 v n xs) (hv : ∀ b, v.ownBlock = some b → b ≠ a.block) : (w.setCell a u).ownsRow base e 1 v n xs := by
  refine ho.kept (row := some a.block) ⟨rfl, rfl, rfl, by simp, fun k _ hk => heap_setCell_other w a k u (fun e => hk (by simp [e]))⟩ ?_
  cases hb : v.ownBlock with
  | none => exact .inl rfl
  | some b => exact .inr (fun e => hv b hb (Option.some.inj e))
/-- a row behind an append, and its header in the struct -/
theorem KW.appTop (h : KW w n0 M S ex) {t : Tw} (ht : isRow t = true) (hcl : isCl t = false) (hxt : ¬ ex .top) {v' : Value} {xs' : List Value} (hown : w1.ownsRow n0 (tyW t) 1 v' xs'.length xs') (hg : w.grownBy w1 (M.hd t).ownBlock)
    (hat : v'.ownBlock = (M.hd t).ownBlock ∨ ∃ k, v'.ownBlock = some k ∧ w.heap.size ≤ k ∧ k < w1.heap.size) (i : Nat) (S' : Ws) (ep : S'.pl = S.pl) (etop : topW S' (putH M.hd t v') = (topW S M.hd).setIfInBounds i v')
    (ect : ctW S' (putH M.hd t v') t = xs') (eoth : ∀ s, isRow s = true → s ≠ t → ctW S' (putH M.hd t v') s = ctW S M.hd s) :
    KW w1 n0 M S (orW ex t) ∧ ∃ f, KW (w1.setCell ⟨M.K, i, none⟩ v') n0 ⟨M.K, putH M.hd t v', f⟩ S' ex ∧ FrW M ⟨M.K, putH M.hd t v', f⟩ (fun s => s = .top ∨ s = t) w (w1.setCell ⟨M.K, i, none⟩ v') := by
  have h1 : KW w1 n0 M S (orW ex t) := h.keep hg (fun s _ hx => hx.elim .inl (fun ⟨b, hb, hs⟩ => .inr (by rw [← hs]; exact h.thn ht hcl hb)))
  obtain ⟨f, hk, hf1, hf2⟩ := h.grow ht hcl hg hat
  have htt : t ≠ .top := fun e => by subst e; cases ht
  have hnt : ¬ orW ex t .top := fun e => e.elim hxt (fun e => htt e.symm)
  have hgs : w1.grownBy (w1.setCell ⟨M.K, i, none⟩ v') (some M.K) := ⟨rfl, rfl, rfl, by simp, fun k _ hk => heap_setCell_other w1 _ k v' (fun e => hk (by simp [e]))⟩
  have hk2 := hk.keep (ex' := orW (orW ex t) .top) hgs (fun s _ hs => hs.elim .inl (fun ⟨b, hb, hs⟩ => .inr (by rw [← hs, ← Option.some.inj hb]; exact hk.tK)))
  refine ⟨h1, f, hk2.to (ex' := ex) rfl rfl (fun e => ep.trans e) (fun e => ?_) (fun s hs e => ?_) (fun s b hs hb => ?_), ⟨hg.os, hg.tape, hg.output, Nat.le_trans hg.size hgs.size, fun b hb hn => ?_, hf2, rfl⟩⟩
  · rw [etop]
    exact heap_setCell_same w1 M.K i _ _ v' (hk.top hnt)
  · by_cases hst : s = t
    · subst hst
      refine .inr (.inl ?_)
      show World.ownsRow _ n0 (tyW s) 1 (putH M.hd s v' s) (ctW S' (putH M.hd s v') s).length (ctW S' (putH M.hd s v') s)
      rw [ect, putH_same]
      exact own_put hown (fun b hb e => by
        have e1 := hf1 b hb
        have e2 := hk.tK
        rw [show b = M.K from e] at e1
        exact htt (e1.symm.trans e2))
    · exact .inl ⟨fun h3 => h3.elim (fun h3 => h3.elim e hst) (fun e => by subst e; cases hs), putH_ne _ _ hst, eoth s hs hst⟩
  · by_cases hst : s = t
    · subst hst
      right
      have hb2 : (putH M.hd s v' s).ownBlock = some b := hb
      rw [putH_same] at hb2
      exact hf1 b hb2
    · left; exact putH_ne _ _ hst
  · have e1 : b ≠ M.K := fun e => hn (.inl (by rw [e]; exact h.tK))
    exact (heap_setCell_other w1 _ b v' e1).trans (hg.block b hb (fun e => hn (.inr (h.thn ht hcl e.symm))))
end
theorem int29_info : (Try.prog.info? 3).map (fun i => (i.zero, i.size, i.bytes)) = some (some (.int .i64 0), 1, 8) := by kernel_rfl
/-- one number more behind a row of numbers -/
theorem app29 {ops : Array Oper} {rest : List Oper} {o : Oper} {a : Act} {Q : Exit → Act → World → Prop} (hgd : o.guard = none) (s x : Operand)
    (ho : o.op = .call { callee := .builtin .append, args := #[s, x], argTypes := #[27, 27] }) (w2 : World) (u : Int) {base n : Nat} {v : Value} {xs : List Value} (hsv : a.eval s = v) (hx : a.eval x = .slice (some ⟨w2.heap.size, 0, none⟩) 1 1)
    (hown : w2.ownsRow base 3 1 v n xs) (hn : n ≤ 10000000) (hbase : base ≤ w2.heap.size)
    (hK : ∀ g cap w', w'.ownsRow base 3 1 (.slice (some ⟨g, 0, none⟩) (n + 1) cap) (n + 1) (xs ++ [iV u]) → w2.grownBy w' v.ownBlock → (v.ownBlock = some g ∨ (w2.heap.size ≤ g ∧ g < w'.heap.size)) → wpList Try.prog ops Q rest (a.put o.dst (.slice (some ⟨g, 0, none⟩) (n + 1) cap)) w') :
    wpList Try.prog ops Q (o :: rest) a (w2.alloc (.cells #[.int .i64 u] 3)) := by
  obtain ⟨i, hi, hz, hsize, hby⟩ := info_parts int29_info
  refine wpList_append_lies _ hgd s x 27 ho base 3 i _ 1 8 Try.underlying27 hi hz hsize hby rfl (by omega) v n xs hsv (hown.alloc _) ⟨w2.heap.size, 0, none⟩ 1 1 [iV u] hx rfl (cell_one_new w2 _ _) (by simp [Value.oneCell', iV]) (by omega) (by simp only [maxLen]; omega) (by omega) (by simp; omega) _ rfl ?_
  intro g cap w' h2 h3 h4 h5
  refine hK g cap w' h2 ⟨h3.os, h3.tape, h3.output, Nat.le_trans (by simp) h3.size, fun k hk hne => (h3.block k (by simp; omega) hne).trans (Below.heap_alloc _ _ _ hk)⟩ ?_
  rcases h4 with h4 | h4
  · exact .inl h4
  · exact .inr ⟨by rw [h4]; simp, (h2.lt g rfl).2⟩
/-- a literal is fixed: the clauses in which it stood go -/
def fixS (S : Ws) (n : Int) : Ws := dropsS { S with fx := S.fx ++ [n] } (S.st (posN S.vars n))
def fixT : Tw → Prop := fun t => t = .top ∨ t = .fix ∨ t = .gon ∨ t = .cnt
section
variable {w : World} {n0 : Nat} {M : Wm} {S : Ws} {ex : Tw → Prop}
set_option maxHeartbeats 4000000 in
set_option maxRecDepth 100000 in
theorem fix29_any (h : KW w n0 M S noW) (hgd : Gd S) (hst : ∀ a, ∀ k ∈ S.st a, k < S.L.length) (hsl : ∀ a, (S.st a).length ≤ 1000000) (hfx : S.fx.length ≤ 1000000) (n : Int) (hn : -(S.vars : Int) ≤ n ∧ n ≤ (S.vars : Int)) :
    Calls Try.prog 36 #[.pointer (some ⟨M.K, 0, none⟩), .int .i64 n] w fun e w' => e = .returned (.tuple #[]) ∧ ∃ M', KW w' n0 M' (fixS S n) noW ∧ FrW M M' fixT w w' := by
  have hno : ∀ t, ¬ noW t := fun t h => h
  have hc5 := h.cFix (hno _)
  have ho := (h.row .fix rfl (hno _)).own (.inl rfl)
  have ho2 : w.ownsRow n0 3 1 (M.hd .fix) S.fx.length (S.fx.map iV) := by
    have e : ctW S M.hd .fix = S.fx.map iV := rfl
    rw [e, List.length_map] at ho
    exact ho
  have hb := h.base
  have hcw : ∀ o, (w.alloc o).cell? ⟨M.K, 5, none⟩ = some (M.hd .fix) := fun o => (h.alloc o).cFix (hno _)
  have HK := Lib.hid h
  clear h ho
  obtain ⟨a, ha⟩ : ∃ a : Nat, n + (S.vars : Int) = (a : Int) := ⟨(n + (S.vars : Int)).toNat, by omega⟩
  have hpa : posN S.vars n = a := by unfold posN; rw [ha]; simp
  have haw : a < 2 * S.vars + 1 := by omega
  have hvv := hgd.vars
  go_enter Try.func36, Try.ntmps36
  go_wp2_with (at_builtin
               refine app29 rfl _ _ rfl w n (by rfl) (by rfl) ho2 (by omega) hb ?_)
  intro g cap w1 ho1 hg1 hat1
  obtain ⟨hk1, f, hk2, hf2⟩ := HK.out.appTop (t := .fix) rfl rfl (hno _) (v' := .slice (some ⟨g, 0, none⟩) (S.fx.length + 1) cap) (xs' := S.fx.map iV ++ [iV n]) (by rw [List.length_append, List.length_map]; exact ho1) hg1 (hat1.elim (fun e => .inl e.symm) (fun e => .inr ⟨g, rfl, e⟩)) 5
    { S with fx := S.fx ++ [n] } rfl rfl (by show (S.fx ++ [n]).map iV = _; simp) (fun s hs hne => by
      cases s <;> first | rfl | exact absurd rfl hne)
  have hor : ¬ orW noW .fix .top := fun e => e.elim (hno _) (by simp)
  have hc1 : w1.cell? ⟨M.K, 5, none⟩ = some (M.hd .fix) := hk1.cFix hor
  have hfr1 : w1.frozen? ⟨M.K, 5, none⟩ = false := hk1.froz hor 5
  have HK2 := Lib.hid hk2
  have HF2 := Lib.hid hf2
  clear ho2 ho1 hg1 hat1 hk1 hk2 hf2 hcw hc5 hb
  go_upto_region 1 with fail
  generalize hM2 : (⟨M.K, putH M.hd .fix (.slice (some ⟨g, 0, none⟩) (S.fx.length + 1) cap), f⟩ : Wm) = M2 at HK2 HF2
  have hMK : M2.K = M.K := by rw [← hM2]
  generalize w1.setCell ⟨M.K, 5, none⟩ (.slice (some ⟨g, 0, none⟩) (S.fx.length + 1) cap) = W2 at HK2 HF2 ⊢
  have HMK := Lib.hid hMK
  have HG1 := Lib.hid (show Gd { S with fx := S.fx ++ [n] } from ⟨hgd.gl, hgd.vars, hgd.lits, hgd.size, hgd.cnt⟩)
  clear hM2 hc1 hfr1 hgd
  have hkd := HK2.out
  have HAT := Lib.hid (fun m => at29_any (hkd.drewN m) (hno _) n a ha (by omega))
  obtain ⟨gs, cs, k1, k2, k3, _, hrd, b, cp, k4⟩ := hkd.stand (hno _) (hno _) (a := a) haw
  have hcs := hkd.cStd (hno _)
  have k1 : M2.hd .std = .slice (some ⟨gs, 0, none⟩) (wide S) cs := k1
  have k4 : M2.hd (.st a) = .slice b (S.st a).length cp := k4
  rw [k1] at hcs
  rw [k4] at k2 hrd
  rw [hMK] at HAT hcs
  have haI : (a : Int) < ((wide S : Nat) : Int) := by unfold wide; omega
  have hwI : ((wide S : Nat) : Int) ≤ 1000000 := by unfold wide; omega
  have haW : a < wide S := haw
  have HRD := Lib.hid hrd
  have HPA := Lib.hid hpa
  have hla := hsl a
  have HST := Lib.hid (hst a)
  have HLD := Lib.hid (show fixS S n = dropsS { S with fx := S.fx ++ [n] } (S.st a) from by unfold fixS; rw [hpa])
  clear hkd k1 k3 hrd hpa ha haw hsl hst hMK
  generalize hSL : S.st a = l at hla k2 HRD HST HLD k4
  have hlI : (l.length : Int) ≤ 1000000 := by omega
  have HSL := Lib.hid hSL
  have HK4 := Lib.hid k4
  clear hSL k4
  generalize hwd : wide S = wd at hcs haI hwI
  clear hwd
  have HAW := Lib.hid haW
  clear haW
  go_quiet ((first | (go_at_call 34; with_reducible exact Calls.quiet_of_same (HAT.out _))))
  generalize hS1 : ({ S with fx := S.fx ++ [n] } : Ws) = S1 at HK2 HG1 HLD
  have HS1 := Lib.hid (show S1.st = S.st ∧ S1.L = S.L ∧ S1.vars = S.vars from by rw [← hS1]; exact ⟨rfl, rfl, rfl⟩)
  have haw : a < wide S1 := by rw [← hS1]; exact HAW.out
  clear hS1
  go_wp2_with fail
  go_loopw [26] (fun q wr => ∃ j : Nat, j ≤ l.length ∧ q = .int .i64 j ∧ KW wr n0 M2 (dropsS S1 (l.take j)) noW ∧ FrW M M2 fixT w wr) (fun q _ => l.length - (intOf q).toNat)
  case atStart => exact ⟨0, by omega, rfl, HK2.out.drewN _, (HF2.out.mono (fun t ht => ht.elim .inl (fun h => .inr (.inl h)))).drewN _⟩
  case round =>
    obtain ⟨j, hj, rfl, hkk, hff⟩ := hrel
    by_cases hlt : j < l.length
    · obtain ⟨x, hx⟩ : ∃ x, l[j]? = some x := ⟨_, List.getElem?_eq_getElem hlt⟩
      obtain ⟨s1, s2, s3, s4, s5, s6⟩ := dropsS_same S1 (l.take j)
      obtain ⟨_, _, _, _, _, _, hrw, _⟩ := hkk.stand (hno _) (hno _) (a := a) (by unfold wide; rw [s2]; exact haw)
      rw [HK4.out, s3, HS1.out.1, HSL.out] at hrw
      obtain ⟨b1, rfl, hxc⟩ := reads_elem hrw hx
      have hxc' : wr.cell? (b1.add j) = some (.int .i64 (x : Int)) := hxc
      have hxl := HST.out x (List.mem_of_getElem? hx)
      obtain ⟨c, hcx⟩ : ∃ c, S.L[x]? = some c := ⟨_, List.getElem?_eq_getElem hxl⟩
      have hgd := HG1.out.drops (l.take j)
      have hcm : c ∈ (dropsS S1 (l.take j)).L := by rw [s1, HS1.out.2.1]; exact List.mem_of_getElem? hcx
      have HDR := Lib.hid (drop29_any hkk (hno _) (hno _) (hno _) (fun _ => hno _) (hno _) (i := x) (c := c) (by rw [s1, HS1.out.2.1]; exact hcx) hgd.gl (Nat.le_trans (size_len _) hgd.size) hgd.vars
        (fun m hm => by have := hgd.lits c hcm m hm; exact ⟨this.1, this.2.1⟩) (by have := size_mem hcm; have := hgd.size; omega) (fun a => by have := hgd.cn a; omega))
      rw [HMK.out] at HDR
      have HFF := Lib.hid hff
      have HTK := Lib.hid (show dropsS S1 (l.take (j + 1)) = dropS (dropsS S1 (l.take j)) x from by rw [take_snoc _ j x hx, dropsS_snoc])
      have hjI : (j : Int) < (l.length : Int) := by omega
      clear hkk hff hx s1 s2 s3 s4 s5 s6 hrw hxc hxl hcx hgd hcm
      go_wp2_with fail
      refine HDR.out.mono ?_
      rintro e w3 ⟨rfl, hk3, hf3⟩
      have HN := Lib.hid (show KW w3 n0 M2 (dropsS S1 (l.take (j + 1))) noW from by rw [HTK.out]; exact hk3)
      have HFN := Lib.hid (show FrW M M2 fixT w w3 from HFF.out.trans (hf3.mono (fun t ht => .inr (.inr ht))))
      clear hk3 hf3
      go_wp2_with fail
      go_round
      case rel => exact ⟨j + 1, by omega, by go_num, HN.out, HFN.out⟩
      case measure => simp [intOf]; omega
    · have hjI : (l.length : Int) ≤ j := by omega
      have HN := Lib.hid (show KW wr n0 M2 (fixS S n) noW from by
        rw [HLD.out]
        rw [List.take_of_length_le (by omega)] at hkk
        exact hkk)
      have HFN := Lib.hid hff
      clear hkk hff
      go_wp2
      go_end0
      exact ⟨rfl, M2, HN.out, HFN.out⟩
end
end Go.Proofs.Ytlcbfahaapodmaa
