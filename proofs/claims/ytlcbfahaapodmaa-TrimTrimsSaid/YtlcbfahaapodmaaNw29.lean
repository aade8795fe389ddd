/-
  Layer 29: newWork: the work in memory at its beginning, and one clause more. Own work.
-/
import Derived.Test.YtlcbfahaapodmaaCl29
namespace Go.Proofs.Ytlcbfahaapodmaa
set_option linter.unusedVariables false
set_option linter.unusedSimpArgs false
open Go.RowKit

/-- a make, a step of a region that draws -/
theorem step_make29 {ops : Array Oper} {E : Prop} {o : Oper} {a : Act} {w : World} {K : Act → World → Prop} {Q : Exit → Act → World → Prop} (hgd : o.guard = none) (l c : Operand) (t : TypeId) (hop : o.op = Op.makeSlice t l c)
    (base : Nat) (e : TypeId) (i : TypeInfo) (z : Value) (size : Nat) (h1 : Try.prog.underlying t = some (.slice e)) (h2 : Try.prog.info? e = some i) (h3 : i.zero = some z) (h4 : i.size = size)
    (kl kc : IntKind) (L C : Int) (n : Nat) (hl : a.eval l = .int kl L) (hc : a.eval c = .int kc C) (hL : L = (n : Int)) (hC : C = (n : Int)) (b2 : i.bytes * n ≤ 281474976710656) (b3 : n ≤ maxLen) (b4 : base ≤ w.heap.size)
    (hK : ∀ w', w'.ownsRow base e size (.slice (some ⟨w.heap.size, 0, none⟩) n n) n (madeCells z.cells (n * size)).toList → w.grownBy w' none → K (a.put o.dst (.slice (some ⟨w.heap.size, 0, none⟩) n n)) w') :
    if Region.wanted o (yielded ops a.tmps) = true then Oper.wp Try.prog o a w K Q else E := by
  have hw : Region.wanted o (yielded ops a.tmps) = true := by simp [Region.wanted, hgd]
  rw [if_pos hw]
  obtain ⟨w', hrun, r1, r2⟩ := run_make_full (P := Try.prog) w base t e i z size h1 h2 h3 h4 kl kc n b2 b3 b4
  subst hL
  subst hC
  unfold Oper.wp
  simp [execOp, hop, hl, hc, hrun, Result.andThen]
  exact hK w' r1 r2
/-- the work at its beginning -/
def newS (vars m : Nat) : Ws := { vars := vars, L := [], G := List.replicate m false }
def hd0 (X1 X2 X3 m W : Nat) : Tw → Value
  | .gon => .slice (some ⟨X1, 0, none⟩) m m
  | .std => .slice (some ⟨X2, 0, none⟩) W W
  | .cnt => .slice (some ⟨X3, 0, none⟩) W W
  | _ => .slice none 0 0
def tag0 (K X1 X2 X3 : Nat) : Nat → Tw := fun b => if b = K then .top else if b = X1 then .gon else if b = X2 then .std else if b = X3 then .cnt else .free
theorem KW.start {w : World} {n0 vars m K X1 X2 X3 : Nat} (hb : n0 ≤ w.heap.size) (hK : n0 ≤ K) (hk2 : K < w.heap.size) (d1 : K ≠ X1) (d2 : K ≠ X2) (d3 : K ≠ X3) (d4 : X1 ≠ X2) (d5 : X1 ≠ X3) (d6 : X2 ≠ X3)
    (h1 : w.ownsRow n0 4 1 (.slice (some ⟨X1, 0, none⟩) m m) m (List.replicate m (.bool false)))
    (h2 : w.ownsRow n0 27 1 (.slice (some ⟨X2, 0, none⟩) (2 * vars + 1) (2 * vars + 1)) (2 * vars + 1) (List.replicate (2 * vars + 1) (.slice none 0 0)))
    (h3 : w.ownsRow n0 3 1 (.slice (some ⟨X3, 0, none⟩) (2 * vars + 1) (2 * vars + 1)) (2 * vars + 1) (List.replicate (2 * vars + 1) (.int .i64 0)))
    (h4 : w.heap[K]? = some (.cells #[nV vars, .slice none 0 0, .slice (some ⟨X1, 0, none⟩) m m, .bool false, .bool false, .slice none 0 0, .int .i64 0, .slice (some ⟨X2, 0, none⟩) (2 * vars + 1) (2 * vars + 1), .slice (some ⟨X3, 0, none⟩) (2 * vars + 1) (2 * vars + 1), .bool false, .int .i64 0, .int .i64 0, .int .i64 0, .slice none 0 0, .slice none 0 0] 56 (0, 0))) :
    KW w n0 ⟨K, hd0 X1 X2 X3 m (2 * vars + 1), tag0 K X1 X2 X3⟩ (newS vars m) noW := by
  have b1 := (h1.lt X1 rfl)
  have b2 := (h2.lt X2 rfl)
  have b3 := (h3.lt X3 rfl)
  have hnil : ∀ e, w.ownsRow n0 e 1 (.slice none 0 0) 0 [] := fun e => World.ownsRow_nil _ _ _ _
  have hct : ∀ t, ctW (newS vars m) (hd0 X1 X2 X3 m (2 * vars + 1)) t = match t with
    | .gon => List.replicate m (.bool false)
    | .std => List.replicate (2 * vars + 1) (.slice none 0 0)
    | .cnt => List.replicate (2 * vars + 1) (.int .i64 0)
    | _ => [] := fun t => by
    cases t with
    | gon => show (List.replicate m false).map bV = _; simp [bV]
    | std => show (List.range (2 * vars + 1)).map (fun a => Value.slice none 0 0) = _; rw [List.map_const', List.length_range]
    | cnt => show (List.range (2 * vars + 1)).map (fun a => iV 0) = _; rw [List.map_const', List.length_range]; rfl
    | cl i => show (([] : Cs).getD i []).map iV = _; simp
    | _ => rfl
  refine ⟨fun _ => h4, fun t ht _ => .inl ?_, ?_, fun t b ht hb2 => ?_, fun b hb2 => ?_, fun b hb2 => ?_, hb⟩
  · rw [hct]
    cases t with
    | gon =>
      show w.ownsRow n0 4 1 (.slice (some ⟨X1, 0, none⟩) m m) (List.replicate m (Value.bool false)).length (List.replicate m (.bool false))
      rw [List.length_replicate]; exact h1
    | std =>
      show w.ownsRow n0 27 1 (.slice (some ⟨X2, 0, none⟩) (2 * vars + 1) (2 * vars + 1)) (List.replicate (2 * vars + 1) (Value.slice none 0 0)).length (List.replicate (2 * vars + 1) (.slice none 0 0))
      rw [List.length_replicate]; exact h2
    | cnt =>
      show w.ownsRow n0 3 1 (.slice (some ⟨X3, 0, none⟩) (2 * vars + 1) (2 * vars + 1)) (List.replicate (2 * vars + 1) (Value.int .i64 0)).length (List.replicate (2 * vars + 1) (.int .i64 0))
      rw [List.length_replicate]; exact h3
    | free => cases ht
    | top => cases ht
    | _ => exact hnil _
  · show tag0 K X1 X2 X3 K = .top
    unfold tag0; rw [if_pos rfl]
  · left
    show tag0 K X1 X2 X3 b = t
    cases t with
    | gon =>
      have e : X1 = b := Option.some.inj hb2
      subst e
      unfold tag0; rw [if_neg (fun e => d1 e.symm), if_pos rfl]
    | std =>
      have e : X2 = b := Option.some.inj hb2
      subst e
      unfold tag0; rw [if_neg (fun e => d2 e.symm), if_neg (fun e => d4 e.symm), if_pos rfl]
    | cnt =>
      have e : X3 = b := Option.some.inj hb2
      subst e
      unfold tag0; rw [if_neg (fun e => d3 e.symm), if_neg (fun e => d5 e.symm), if_neg (fun e => d6 e.symm), if_pos rfl]
    | _ => exact absurd hb2 (by simp [hd0, Value.ownBlock])
  · show tag0 K X1 X2 X3 b = .free
    unfold tag0
    rw [if_neg (by omega), if_neg (by omega), if_neg (by omega), if_neg (by omega)]
  · show tag0 K X1 X2 X3 b = .free
    unfold tag0
    rw [if_neg (by omega), if_neg (by omega), if_neg (by omega), if_neg (by omega)]
section
variable {w w4 w5 : World} {n0 : Nat} {M : Wm} {S : Ws}
theorem row29_info : (Try.prog.info? 27).map (fun i => (i.zero, i.size, i.bytes)) = some (some (.slice none 0 0), 1, 24) := by kernel_rfl
/-- one clause more: its row (own, new), its header behind an append to the list, the list's header in the struct -/
theorem KW.pushCl (h : KW w n0 M S noW) {c : List Int} {v' : Value} {x : Nat} (hg1 : w.grownBy w4 none) (hc : w4.ownsRow n0 3 1 v' c.length (c.map iV)) (hc2 : ∀ b, v'.ownBlock = some b → w.heap.size ≤ b ∧ b < w4.heap.size)
    {g cap : Nat} (ho : w5.ownsRow n0 27 1 (.slice (some ⟨g, 0, none⟩) (S.L.length + 1) cap) (S.L.length + 1) (((List.range S.L.length).map fun i => M.hd (.cl i)) ++ [v'])) (hg2 : w4.grownBy w5 (M.hd .lst).ownBlock) (hat : (M.hd .lst).ownBlock = some g ∨ (w4.heap.size ≤ g ∧ g < w5.heap.size)) :
    w5.cell? ⟨M.K, 1, none⟩ = some (M.hd .lst) ∧ w5.frozen? ⟨M.K, 1, none⟩ = false ∧ ∃ f, KW (w5.setCell ⟨M.K, 1, none⟩ (.slice (some ⟨g, 0, none⟩) (S.L.length + 1) cap)) n0 ⟨M.K, putH (putH M.hd (.cl S.L.length) v') .lst (.slice (some ⟨g, 0, none⟩) (S.L.length + 1) cap), f⟩ { S with L := S.L ++ [c] } noW := by
  -- the clause's own row
  obtain ⟨f, hf0, hf1, hf2⟩ : ∃ f : Nat → Tw, (KW w4 n0 { M with tag := f } S noW) ∧ (∀ b, v'.ownBlock = some b → f b = .cl S.L.length) ∧ ∀ b, M.tag b ≠ .free → f b = M.tag b := by
    have h1 := h.keep0 hg1
    cases hb : v'.ownBlock with
    | none => exact ⟨M.tag, h1, fun b h => absurd h (by simp), fun _ _ => rfl⟩
    | some q =>
      obtain ⟨q1, q2⟩ := hc2 q hb
      have hfr := h.fresh q q1
      refine ⟨tagW M.tag q (.cl S.L.length), h1.retag hfr (Nat.le_trans h.base q1) q2, fun b hb => ?_, fun b hb => ?_⟩
      · cases hb; unfold tagW; rw [if_pos rfl]
      · unfold tagW
        rw [if_neg (fun e => hb (by rw [e]; exact hfr))]
  have e5 : ∀ (M : Wm), ctW S M.hd .lst = (List.range S.L.length).map fun i => M.hd (.cl i) := fun _ => rfl
  -- the list and the new clause left out, with the new header
  have hk1 : KW w4 n0 ⟨M.K, putH M.hd (.cl S.L.length) v', f⟩ { S with L := S.L ++ [c] } (orW noW .lst) := by
    refine hf0.to (ex' := orW noW .lst) rfl rfl (fun e => e) (fun _ => ?_) (fun s hs e => ?_) (fun s b hs hb => ?_)
    · have h1 := hf0.top (fun h => h)
      have e : topW { S with L := S.L ++ [c] } (putH M.hd (.cl S.L.length) v') = topW S M.hd := by unfold topW; simp [putH]
      rw [e]; exact h1
    · by_cases hsl : s = .lst
      · exact absurd (.inr hsl) e
      · by_cases hsk : s = .cl S.L.length
        · subst hsk
          refine .inr (.inl ?_)
          have e1 : ctW { S with L := S.L ++ [c] } (putH M.hd (.cl S.L.length) v') (.cl S.L.length) = c.map iV := by
            show ((S.L ++ [c]).getD S.L.length []).map iV = _
            simp [List.getD]
          show World.ownsRow _ n0 (tyW (.cl S.L.length)) 1 (putH M.hd (.cl S.L.length) v' (.cl S.L.length)) (ctW { S with L := S.L ++ [c] } (putH M.hd (.cl S.L.length) v') (.cl S.L.length)).length (ctW { S with L := S.L ++ [c] } (putH M.hd (.cl S.L.length) v') (.cl S.L.length))
          rw [e1, putH_same, List.length_map]
          exact hc
        · refine .inl ⟨fun h => h, putH_ne _ _ hsk, ?_⟩
          cases s with
          | cl i =>
            have hik : i ≠ S.L.length := fun e => hsk (by rw [e])
            show ((S.L ++ [c]).getD i []).map iV = (S.L.getD i []).map iV
            by_cases hlt : i < S.L.length
            · simp [List.getD, List.getElem?_append_left hlt]
            · have h1 : (S.L ++ [c])[i]? = none := by rw [List.getElem?_eq_none_iff]; simp; omega
              have h2 : S.L[i]? = none := by rw [List.getElem?_eq_none_iff]; omega
              simp [List.getD, h1, h2]
          | std =>
            show (List.range (wide S)).map (fun a => putH M.hd (.cl S.L.length) v' (.st a)) = (List.range (wide S)).map fun a => M.hd (.st a)
            congr 1
          | lst => exact absurd rfl hsl
          | _ => rfl
    · by_cases hsk : s = .cl S.L.length
      · subst hsk
        right
        have hb2 : (putH M.hd (.cl S.L.length) v' (.cl S.L.length)).ownBlock = some b := hb
        rw [putH_same] at hb2
        exact hf1 b hb2
      · left; exact putH_ne _ _ hsk
  have htl : ∀ b, (M.hd .lst).ownBlock = some b → f b = .lst := fun b hb => hf0.thn (t := .lst) rfl rfl hb
  have hk2 : KW w5 n0 ⟨M.K, putH M.hd (.cl S.L.length) v', f⟩ { S with L := S.L ++ [c] } (orW noW .lst) := hk1.keep hg2 (fun s _ hs => hs.elim id (fun ⟨b, hb, hs⟩ => .inr (by rw [← hs]; exact htl b hb)))
  obtain ⟨f', hk3, hf3⟩ : ∃ f' : Nat → Tw, KW w5 n0 ⟨M.K, putH M.hd (.cl S.L.length) v', f'⟩ { S with L := S.L ++ [c] } (orW noW .lst) ∧ f' g = .lst := by
    rcases hat with hat | ⟨q1, q2⟩
    · exact ⟨f, hk2, htl g hat⟩
    · have hfr : f g = .free := hk1.fresh g q1
      refine ⟨tagW f g .lst, hk2.retag hfr (Nat.le_trans hk1.base q1) q2, ?_⟩
      unfold tagW; rw [if_pos rfl]
  have hnt : ¬ orW noW .lst .top := fun e => e.elim (fun h => h) (by simp)
  have n1 : putH M.hd (.cl S.L.length) v' .lst = M.hd .lst := putH_ne _ _ (by simp)
  refine ⟨by rw [← n1]; exact hk3.cLst hnt, hk3.froz hnt 1, f', ?_⟩
  have hgs : w5.grownBy (w5.setCell ⟨M.K, 1, none⟩ (.slice (some ⟨g, 0, none⟩) (S.L.length + 1) cap)) (some M.K) := ⟨rfl, rfl, rfl, by simp, fun k _ hk => heap_setCell_other w5 _ k _ (fun e => hk (by simp [e]))⟩
  have hk4 := hk3.keep (ex' := orW (orW noW .lst) .top) hgs (fun s _ hs => hs.elim .inl (fun ⟨b, hb, hs⟩ => .inr (by rw [← hs, ← Option.some.inj hb]; exact hk3.tK)))
  refine hk4.to (ex' := noW) rfl rfl (fun e => e) (fun _ => ?_) (fun s hs e => ?_) (fun s b hs hb => ?_)
  · have h1 := heap_setCell_same w5 M.K 1 _ _ (.slice (some ⟨g, 0, none⟩) (S.L.length + 1) cap) (hk3.top hnt)
    have e : topW { S with L := S.L ++ [c] } (putH (putH M.hd (.cl S.L.length) v') .lst (.slice (some ⟨g, 0, none⟩) (S.L.length + 1) cap)) = (topW { S with L := S.L ++ [c] } (putH M.hd (.cl S.L.length) v')).setIfInBounds 1 (.slice (some ⟨g, 0, none⟩) (S.L.length + 1) cap) := by
      unfold topW; simp [putH]
    rw [e]
    exact h1
  · by_cases hsl : s = .lst
    · subst hsl
      refine .inr (.inl ?_)
      have e1 : ctW { S with L := S.L ++ [c] } (putH (putH M.hd (.cl S.L.length) v') .lst (.slice (some ⟨g, 0, none⟩) (S.L.length + 1) cap)) .lst = ((List.range S.L.length).map fun i => M.hd (.cl i)) ++ [v'] := by
        show (List.range (S.L ++ [c]).length).map (fun i => putH (putH M.hd (.cl S.L.length) v') .lst (.slice (some ⟨g, 0, none⟩) (S.L.length + 1) cap) (.cl i)) = _
        rw [List.length_append, List.length_singleton, List.range_succ, List.map_append]
        congr 1
        · refine List.map_congr_left fun i hi => ?_
          have := List.mem_range.1 hi
          rw [putH_ne _ _ (by simp), putH_ne _ _ (by simp; omega)]
        · show [putH (putH M.hd (.cl S.L.length) v') .lst _ (.cl S.L.length)] = _
          rw [putH_ne _ _ (by simp), putH_same]
      show World.ownsRow _ n0 (tyW .lst) 1 (putH (putH M.hd (.cl S.L.length) v') .lst (.slice (some ⟨g, 0, none⟩) (S.L.length + 1) cap) .lst) (ctW { S with L := S.L ++ [c] } (putH (putH M.hd (.cl S.L.length) v') .lst (.slice (some ⟨g, 0, none⟩) (S.L.length + 1) cap)) .lst).length (ctW { S with L := S.L ++ [c] } (putH (putH M.hd (.cl S.L.length) v') .lst (.slice (some ⟨g, 0, none⟩) (S.L.length + 1) cap)) .lst)
      rw [e1, putH_same]
      have e2 : (((List.range S.L.length).map fun i => M.hd (.cl i)) ++ [v']).length = S.L.length + 1 := by simp
      rw [e2]
      exact own_put ho (fun b hb e => by
        have e3 : g = b := Option.some.inj hb
        have e4 := hk3.tK
        have e5 : f' M.K = .top := e4
        rw [← show b = M.K from e, ← e3, hf3] at e5
        cases e5)
    · exact .inl ⟨fun h => h.elim (fun h => h.elim (fun h => h) hsl) (fun h => by subst h; cases hs), putH_ne _ _ hsl, by
        cases s with
        | std =>
          show (List.range (wide S)).map (fun a => putH (putH M.hd (.cl S.L.length) v') .lst (.slice (some ⟨g, 0, none⟩) (S.L.length + 1) cap) (.st a)) = (List.range (wide S)).map fun a => putH M.hd (.cl S.L.length) v' (.st a)
          congr 1
        | lst => exact absurd rfl hsl
        | _ => rfl⟩
  · by_cases hsl : s = .lst
    · subst hsl
      right
      have hb2 : (putH (putH M.hd (.cl S.L.length) v') .lst (.slice (some ⟨g, 0, none⟩) (S.L.length + 1) cap) .lst).ownBlock = some b := hb
      rw [putH_same] at hb2
      have : g = b := Option.some.inj hb2
      rw [← this]; exact hf3
    · left; exact putH_ne _ _ hsl
end
end Go.Proofs.Ytlcbfahaapodmaa
