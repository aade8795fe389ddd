/-
  Layer 29: twice. Own work.
-/
import Derived.Test.YtlcbfahaapodmaaMk29
namespace Go.Proofs.Ytlcbfahaapodmaa
set_option linter.unusedVariables false
set_option linter.unusedSimpArgs false
open Go.RowKit

/-- a clause's row while it is filtered in its place -/
def RowI (w : World) (b0 cap : Nat) (row kp : List Int) (i : Nat) : Prop :=
  ∃ cur, w.heap[b0]? = some (.cells cur 3 (0, 0)) ∧ cur.size = cap ∧ cur.toList.take kp.length = kp.map iV ∧ ∀ j, i ≤ j → j < row.length → cur[j]? = (row.map iV)[j]?
section
variable {w wr : World} {row kp : List Int} {b0 cap i n0 : Nat} {n : Int}
theorem RowI.cell (h : RowI wr b0 cap row kp i) (hr : row[i]? = some n) : wr.cell? ⟨b0, i, none⟩ = some (.int .i64 n) := by
  obtain ⟨cur, h1, _, _, h2⟩ := h
  rw [cell_of_row wr b0 i cur _ (0, 0) h1, h2 i (Nat.le_refl _) (List.getElem?_eq_some_iff.1 hr).1, List.getElem?_map, hr]
  rfl
theorem RowI.kept {w' : World} (h : RowI wr b0 cap row kp i) (hg : w'.heap[b0]? = wr.heap[b0]?) : RowI w' b0 cap row kp i := by
  obtain ⟨cur, h1, h2⟩ := h
  exact ⟨cur, hg.trans h1, h2⟩
theorem RowI.lt (h : RowI wr b0 cap row kp i) : b0 < wr.heap.size := by
  obtain ⟨cur, h1, h2⟩ := h
  exact (Array.getElem?_eq_some_iff.1 h1).1
theorem RowI.next (h : RowI wr b0 cap row kp i) : RowI wr b0 cap row kp (i + 1) := by
  obtain ⟨cur, h1, h2, h3, h4⟩ := h
  exact ⟨cur, h1, h2, h3, fun j hj => h4 j (by omega)⟩
theorem RowI.own (h : RowI wr b0 cap row kp i) (hb : n0 ≤ b0) (hk : kp.length ≤ cap) (hcm : cap ≤ maxLen) : wr.ownsRow n0 3 1 (.slice (some ⟨b0, 0, none⟩) kp.length cap) kp.length (kp.map iV) := by
  obtain ⟨cur, h1, h2, h3, h4⟩ := h
  exact ⟨by simp, .inr ⟨b0, cap, cur, rfl, hb, h1, hk, hcm, by simpa using h2, by rw [Nat.mul_one]; exact h3⟩⟩
theorem RowI.of (h : wr.ownsRow n0 3 1 (.slice (some ⟨b0, 0, none⟩) row.length cap) row.length (row.map iV)) : RowI wr b0 cap row [] 0 ∧ n0 ≤ b0 ∧ row.length ≤ cap ∧ cap ≤ maxLen := by
  obtain ⟨h1, h2⟩ := h
  rcases h2 with ⟨h, _⟩ | ⟨g, cap', cur, h3, h4, h5, h6, h7, h8, h9⟩
  · cases h
  · cases h3
    rw [Nat.mul_one] at h8 h9
    refine ⟨⟨cur, h5, h8, rfl, fun j _ hj => ?_⟩, h4, h6, h7⟩
    rw [← h9, List.getElem?_take, if_pos hj, Array.getElem?_toList]
/-- one number more that is kept, in its place -/
theorem appI29 {ops : Array Oper} {rest : List Oper} {o : Oper} {a : Act} {Q : Exit → Act → World → Prop} (hgd : o.guard = none) (s x : Operand)
    (ho : o.op = .call { callee := .builtin .append, args := #[s, x], argTypes := #[27, 27] }) (h : RowI wr b0 cap row kp i) (hsv : a.eval s = .slice (some ⟨b0, 0, none⟩) kp.length cap) (hx : a.eval x = .slice (some ⟨wr.heap.size, 0, none⟩) 1 1)
    (hk : kp.length ≤ i) (hi : i < row.length) (hc : row.length ≤ cap)
    (hK : ∀ w', RowI w' b0 cap row (kp ++ [n]) (i + 1) → wr.grownBy w' (some b0) → wpList Try.prog ops Q rest (a.put o.dst (.slice (some ⟨b0, 0, none⟩) (kp.length + 1) cap)) w') :
    wpList Try.prog ops Q (o :: rest) a (wr.alloc (.cells #[.int .i64 n] 3)) := by
  obtain ⟨ii, hi2, hz, hsize, hby⟩ := info_parts int29_info
  have hb := h.lt
  obtain ⟨cur, h1, h2, h3, h4⟩ := h
  have h1' : (wr.alloc (.cells #[.int .i64 n] 3)).heap[b0]? = some (.cells cur 3 (0, 0)) := (Below.heap_alloc _ _ _ hb).trans h1
  refine wpList_plain hgd fun K' hK' => ?_
  have hr := run_append_room (P := Try.prog) (wr.alloc (.cells #[.int .i64 n] 3)) 27 o.type 3 ii Try.underlying27 hi2 b0 kp.length cap cur h1' ⟨wr.heap.size, 0, none⟩ 1 1 [iV n] (by rw [hsize]; rfl) (cell_one_new wr _ _) (by simp [Value.oneCell', iV]) (by omega) (by rw [hsize, h2]; simp; omega)
  rw [hsize] at hr
  unfold Oper.wp execOp
  simp only [ho, resolve, invoke, builtin, Sem.run_bind, Sem.run_pure, Result.andThen_ok, List.map_toArray, List.map_cons, List.map_nil, hsv, hx, hr]
  have hcl : cur.toList.length = cap := by simpa using h2
  refine hK' _ _ (hK _ ⟨_, setRow_heap _ b0 cur _ _ _ h1', ?_, ?_, fun j hj hj2 => ?_⟩ ⟨rfl, rfl, rfl, by simp, fun k hk hne => (setRow_other _ b0 k _ (fun e => hne (by rw [e]))).trans (Below.heap_alloc _ _ _ hk)⟩)
  · simp only [List.size_toArray, List.length_append, List.length_take, List.length_drop, hcl, List.length_singleton]
    omega
  · have e1 : (cur.toList.take (kp.length * 1)).length = kp.length := by rw [List.length_take, hcl]; omega
    rw [List.length_append, List.length_singleton, List.map_append]
    show List.take _ (cur.toList.take (kp.length * 1) ++ [iV n] ++ _) = _
    rw [List.take_append_of_le_length (by rw [List.length_append, e1]; simp), List.take_of_length_le (by rw [List.length_append, e1]; simp), Nat.mul_one, h3]
    rfl
  · rw [← h4 j (by omega) hj2]
    have e1 : (cur.toList.take (kp.length * 1)).length = kp.length := by rw [List.length_take, hcl]; omega
    show (cur.toList.take (kp.length * 1) ++ [iV n] ++ cur.toList.drop (kp.length * 1 + [iV n].length)).toArray[j]? = _
    rw [List.getElem?_toArray, List.getElem?_append_right (by rw [List.length_append, e1]; simp; omega), List.getElem?_drop, List.length_append, e1]
    simp only [List.length_singleton, Nat.mul_one]
    rw [show kp.length + 1 + (j - (kp.length + 1)) = j by omega, Array.getElem?_toList]
end
/-- what was seen: a number for each place -/
def Seen (w : World) (n0 X W : Nat) (sn : Nat → Int) : Prop := w.ownsRow n0 3 1 (.slice (some ⟨X, 0, none⟩) W W) W ((List.range W).map fun a => iV (sn a))
section
variable {w w' : World} {n0 X W : Nat} {sn : Nat → Int} {M : Wm} {S : Ws} {ex : Tw → Prop} {row : Option Nat}
theorem Seen.cell (h : Seen w n0 X W sn) {a : Nat} (ha : a < W) : w.cell? ⟨X, a, none⟩ = some (.int .i64 (sn a)) ∧ w.frozen? ⟨X, a, none⟩ = false := by
  obtain ⟨h1, h2⟩ := h
  rcases h2 with ⟨h, _⟩ | ⟨g, cap, cur, h3, h4, h5, h6, h7, h8, h9⟩
  · cases h
  · cases h3
    refine ⟨?_, frozen_of_row w X a _ _ h5⟩
    rw [cell_of_row w X a cur _ (0, 0) h5, ← Array.getElem?_toList]
    rw [Nat.mul_one] at h8 h9
    have e : (cur.toList.take W)[a]? = some (iV (sn a)) := by rw [h9, List.getElem?_map, List.getElem?_range ha]; rfl
    rw [List.getElem?_take, if_pos ha] at e
    exact e
theorem Seen.kept (h : Seen w n0 X W sn) (hg : w.grownBy w' row) (hne : row ≠ some X) : Seen w' n0 X W sn := World.ownsRow.kept h hg (.inr (fun e => hne e.symm))
theorem Seen.put (h : Seen w n0 X W sn) {a : Nat} {z : Int} {f : Nat → Int} (hf : ∀ b, f b = if b = a then z else sn b) : Seen (w.setCell ⟨X, a, none⟩ (.int .i64 z)) n0 X W f ∧ w.grownBy (w.setCell ⟨X, a, none⟩ (.int .i64 z)) (some X) := by
  obtain ⟨h1, h2⟩ := World.ownsRow.stored h a (.int .i64 z)
  refine ⟨?_, h2⟩
  rw [range_set] at h1
  have : (fun b => if b = a then Value.int .i64 z else iV (sn b)) = fun b => iV (f b) := by
    funext b
    rw [hf b]
    by_cases hb : b = a <;> simp [hb, iV]
  rw [this] at h1
  exact h1
theorem KW.seen (h : KW w n0 M S ex) (hX : M.tag X = .free) (hg : w.grownBy w' (some X)) : KW w' n0 M S ex :=
  h.keep hg (fun t ht hx => hx.elim id (fun ⟨b, hb, h2⟩ => absurd (by rw [← h2, ← Option.some.inj hb]; exact hX) ht))
/-- a clause that was left out has its row again -/
theorem KW.fillCl {k : Nat} (h : KW w n0 M S (orW noW (.cl k))) {g cap : Nat} {d : List Int} {v' : Value} (hk : k < S.L.length) (hl : M.hd .lst = .slice (some ⟨g, 0, none⟩) S.L.length cap) (hr : w.ownsRow n0 3 1 v' d.length (d.map iV)) (hat : ∀ b, v'.ownBlock = some b → M.tag b = .cl k) :
    KW (w.setCell ⟨g, k, none⟩ v') n0 ⟨M.K, putH M.hd (.cl k) v', M.tag⟩ { S with L := S.L.set k d } noW ∧ FrW M ⟨M.K, putH M.hd (.cl k) v', M.tag⟩ (fun t => t = .lst) w (w.setCell ⟨g, k, none⟩ v') := by
  have hno : ∀ t, t ≠ .cl k → ¬ orW noW (.cl k) t := fun t h1 h2 => h2.elim (fun h => h) h1
  have ho : w.ownsRow n0 27 1 (M.hd .lst) S.L.length ((List.range S.L.length).map fun i => M.hd (.cl i)) := by
    have := (h.row .lst rfl (hno _ (by simp))).own (.inl rfl)
    rw [show ctW S M.hd .lst = (List.range S.L.length).map fun i => M.hd (.cl i) from rfl, List.length_map, List.length_range] at this
    exact this
  rw [hl] at ho
  obtain ⟨ho2, hg2⟩ := ho.stored k v'
  have htg : M.tag g = .lst := h.thn (t := .lst) rfl rfl (by rw [hl]; rfl)
  have hk2 := h.keep (ex' := orW (orW noW (.cl k)) .lst) hg2 (fun s _ hs => hs.elim .inl (fun ⟨b, hb, hs⟩ => .inr (by rw [← hs, ← Option.some.inj hb]; exact htg)))
  have hne : ∀ s, s ≠ .cl k → s ≠ .lst → ¬ orW (orW noW (.cl k)) .lst s := fun s h1 h2 h3 => h3.elim (hno s h1) h2
  have htop : ∀ (L : Cs), topW { S with L := L } (putH M.hd (.cl k) v') = topW S M.hd := fun L => by unfold topW; simp [putH]
  refine ⟨hk2.to (ex' := noW) rfl rfl (fun e => e) (fun e => ?_) (fun s hs e => ?_) (fun s b hs hb => ?_), ⟨hg2.os, hg2.tape, hg2.output, hg2.size, fun b hb hn => ?_, fun _ _ => rfl, rfl⟩⟩
  · rw [htop]
    exact hk2.top (hne _ (by simp) (by simp))
  · by_cases hsl : s = .lst
    · subst hsl
      refine .inr (.inl ?_)
      have e1 : ctW { S with L := S.L.set k d } (putH M.hd (.cl k) v') .lst = ((List.range S.L.length).map fun i => M.hd (.cl i)).set k v' := by
        show (List.range (S.L.set k d).length).map (fun i => putH M.hd (.cl k) v' (.cl i)) = _
        rw [range_set, List.length_set]
        congr 1
        funext i
        unfold putH
        by_cases hik : i = k
        · rw [if_pos (by rw [hik]), if_pos hik]
        · rw [if_neg (by simpa using hik), if_neg hik]
      show World.ownsRow _ n0 (tyW .lst) 1 (putH M.hd (.cl k) v' .lst) (ctW { S with L := S.L.set k d } (putH M.hd (.cl k) v') .lst).length (ctW { S with L := S.L.set k d } (putH M.hd (.cl k) v') .lst)
      rw [e1, putH_ne _ _ (by simp), hl, List.length_set, List.length_map, List.length_range]
      exact ho2
    · by_cases hsk : s = .cl k
      · subst hsk
        refine .inr (.inl ?_)
        have e1 : ctW { S with L := S.L.set k d } (putH M.hd (.cl k) v') (.cl k) = d.map iV := by
          show ((S.L.set k d).getD k []).map iV = _
          rw [List.getD, List.getElem?_set_self hk]; rfl
        show World.ownsRow _ n0 (tyW (.cl k)) 1 (putH M.hd (.cl k) v' (.cl k)) (ctW { S with L := S.L.set k d } (putH M.hd (.cl k) v') (.cl k)).length (ctW { S with L := S.L.set k d } (putH M.hd (.cl k) v') (.cl k))
        rw [e1, putH_same, List.length_map]
        refine World.ownsRow.kept hr hg2 ?_
        cases hb : v'.ownBlock with
        | none => exact .inl rfl
        | some b => exact .inr (fun e => by
            have e2 := hat b hb
            rw [Option.some.inj e, htg] at e2
            cases e2)
      · refine .inl ⟨hne s hsk hsl, putH_ne _ _ hsk, ?_⟩
        cases s with
        | cl i =>
          have hik : i ≠ k := fun e => hsk (by rw [e])
          show ((S.L.set k d).getD i []).map iV = (S.L.getD i []).map iV
          rw [List.getD, List.getElem?_set_ne (fun e => hik e.symm)]; rfl
        | std =>
          show (List.range (wide S)).map (fun a => putH M.hd (.cl k) v' (.st a)) = (List.range (wide S)).map fun a => M.hd (.st a)
          congr 1
        | lst => exact absurd rfl hsl
        | _ => rfl
  · by_cases hsk : s = .cl k
    · subst hsk
      right
      have hb2 : (putH M.hd (.cl k) v' (.cl k)).ownBlock = some b := hb
      rw [putH_same] at hb2
      exact hat b hb2
    · left; exact putH_ne _ _ hsk
  · exact hg2.block b hb (fun e => hn (by rw [Option.some.inj e]; exact htg))
/-- sizes -/
structure Sz (S : Ws) : Prop where
  gl : S.G.length = S.L.length
  vars : S.vars ≤ 100000
  lits : ∀ c ∈ S.L, ∀ n ∈ c, -(S.vars : Int) ≤ n ∧ n ≤ (S.vars : Int) ∧ n ≠ 0
  size : sizeC S.L ≤ 1000000
theorem Gd.sz {S : Ws} (h : Gd S) : Sz S := ⟨h.gl, h.vars, h.lits, h.size⟩
def twT : Tw → Prop := fun t => t = .lst ∨ ∃ i, t = .cl i
def mixL (L : Cs) (i : Nat) : Cs := (L.take i).map dd ++ L.drop i
theorem mixL_len (L : Cs) (i : Nat) : (mixL L i).length = L.length := by simp [mixL]; omega
theorem mixL_at {L : Cs} {i : Nat} {c : List Int} (h : L[i]? = some c) : (mixL L i)[i]? = some c := by
  have hi := (List.getElem?_eq_some_iff.1 h).1
  unfold mixL
  rw [List.getElem?_append_right (by simp; omega), List.getElem?_drop]
  simp only [List.length_map, List.length_take]
  rw [Nat.min_eq_left (by omega), Nat.sub_self, Nat.add_zero, h]
theorem mixL_set {L : Cs} {i : Nat} {c : List Int} (h : L[i]? = some c) : (mixL L i).set i (dd c) = mixL L (i + 1) := by
  have hi := (List.getElem?_eq_some_iff.1 h).1
  have hl : ((L.take i).map dd).length = i := by simp; omega
  unfold mixL
  rw [List.set_append_right _ _ (by omega), hl, Nat.sub_self, take_snoc _ i c h, List.map_append, List.append_assoc]
  congr 1
  rw [List.drop_eq_getElem_cons hi]
  have : L[i] = c := by rw [List.getElem?_eq_getElem hi] at h; exact Option.some.inj h
  rw [this]
  rfl
theorem mixL_zero (L : Cs) : mixL L 0 = L := by simp [mixL]
theorem mixL_all (L : Cs) : mixL L L.length = L.map dd := by simp [mixL]
theorem mixL_mem {L : Cs} {i : Nat} {c : List Int} (h : c ∈ mixL L i) : ∃ d ∈ L, ∀ n ∈ c, n ∈ d := by
  rcases List.mem_append.1 h with h | h
  · obtain ⟨d, hd, rfl⟩ := List.mem_map.1 h
    exact ⟨d, List.mem_of_mem_take hd, fun n hn => (mem_dd d n).1 hn⟩
  · exact ⟨c, List.mem_of_mem_drop h, fun n hn => hn⟩
theorem set_self29 {α : Type} {l : List α} {i : Nat} {x : α} (h : l[i]? = some x) : l.set i x = l := by
  obtain ⟨h1, rfl⟩ := List.getElem?_eq_some_iff.1 h
  exact List.set_getElem_self h1
theorem KW.sameHd (h : KW w n0 M S noW) {k g cap : Nat} (hk : k < S.L.length) (hl : M.hd .lst = .slice (some ⟨g, 0, none⟩) S.L.length cap) : KW (w.setCell ⟨g, k, none⟩ (M.hd (.cl k))) n0 M S noW := by
  have e5 : ctW S M.hd .lst = (List.range S.L.length).map fun i => M.hd (.cl i) := rfl
  refine h.put (t := .lst) rfl rfl (fun h => h) (cap := cap) (by rw [hl, e5, List.length_map, List.length_range]) (M.hd (.cl k)) rfl rfl ?_ (fun _ _ _ _ => rfl)
  rw [e5, range_set]
  congr 1
  funext b
  by_cases hb : b = k
  · subst hb; rw [if_pos rfl]
  · rw [if_neg hb]
set_option maxHeartbeats 4000000 in
set_option maxRecDepth 100000 in
theorem twice29_any (h : KW w n0 M S noW) (hs : Sz S) :
    Calls Try.prog 23 #[.pointer (some ⟨M.K, 0, none⟩)] w fun e w' => e = .returned (.bool (!S.pl && S.L.any fun c => !decide c.Nodup)) ∧ ∃ M', KW w' n0 M' (if S.pl then S else { S with L := S.L.map dd }) noW ∧ FrW M M' twT w w' := by
  have hno : ∀ t, ¬ noW t := fun t h => h
  have hc3 := h.cPl (hno _)
  have HK := Lib.hid h
  have HS := Lib.hid hs
  clear h hs
  obtain ⟨b, hb⟩ : ∃ b, S.pl = b := ⟨_, rfl⟩
  rw [hb] at hc3 ⊢
  have HB := Lib.hid hb
  clear hb
  go_enter Try.func23, Try.ntmps23
  cases b with
  | true =>
    go_wp2
    go_ret
    exact ⟨rfl, M, HK.out, FrW.refl _ _ _⟩
  | false =>
    have hq0 := HK.out.cVars (hno _)
    have hv6 := HS.out.vars
    have hL6 : S.L.length ≤ 1000000 := Nat.le_trans (size_len _) HS.out.size
    have hw2 : IntKind.i64.wrap (2 * (S.vars : Int)) = 2 * (S.vars : Int) := IntWalk.i64_in _ ⟨by omega, by omega⟩
    have hw3 : IntKind.i64.wrap (2 * (S.vars : Int) + 1) = 2 * (S.vars : Int) + 1 := IntWalk.i64_in _ ⟨by omega, by omega⟩
    obtain ⟨i0, hi, hz0, hz1, hz2⟩ := info_parts int29_info
    have hws : wide S ≤ 1000000 := by unfold wide; omega
    have hn0 := HK.out.base
    go_upto_region 4 with fail
    go_wp2_with (at_make; refine wpList_make_full _ rfl _ _ 27 rfl n0 3 i0 (.int .i64 0) 1 Try.underlying27 hi hz0 hz1 .i64 .i64 _ _ (wide S) rfl rfl (by unfold wide; omega) (by unfold wide; omega) (by rw [hz2]; omega) (by unfold maxLen; omega) hn0 ?_)
    intro w3 hown hgrow
    generalize hX : w.heap.size = X at hown ⊢
    have HX := Lib.hid (show M.tag X = .free ∧ X < w3.heap.size ∧ w.heap.size ≤ X from ⟨by rw [← hX]; exact HK.out.fresh _ (Nat.le_refl _), (hown.lt X rfl).2, Nat.le_of_eq hX⟩)
    have hsn : Seen w3 n0 X (wide S) (fun _ => 0) := by
      have e : (madeCells #[Value.int .i64 0] (wide S)).toList = (List.range (wide S)).map fun _ => iV 0 := by
        rw [List.map_const', List.length_range]
        exact toList_madeCells_one _ _
      rw [e] at hown
      exact hown
    have HSN := Lib.hid hsn
    have HK3 := Lib.hid (HK.out.keep0 hgrow)
    have HF3 := Lib.hid (show FrW M M twT w w3 from FrW.of hgrow (fun b hb => by cases hb))
    clear hown hgrow hsn hq0 hw2 hw3 hi hz0 hz1 hz2 hX hn0 hc3
    have hq1 := HK3.out.cLst (hno _)
    obtain ⟨la, lc, hl0⟩ := HK3.out.shape (t := .lst) rfl (hno _)
    have e5 : ctW S M.hd .lst = (List.range S.L.length).map fun i => M.hd (.cl i) := rfl
    rw [e5, List.length_map, List.length_range] at hl0
    rw [hl0] at hq1
    have HL0 := Lib.hid hl0
    have hLI : (S.L.length : Int) ≤ 1000000 := by omega
    clear e5 hl0
    go_wp2_with fail
    go_loopw [3, 5, 6, 7, 9, 27] (fun fd z5 z6 z7 z9 q wr => ∃ i : Nat, ∃ M3 : Wm, ∃ sn : Nat → Int, i ≤ S.L.length ∧ q = .int .i64 i ∧ fd = .bool ((S.L.take i).any fun c => !decide c.Nodup) ∧ KW wr n0 M3 { S with L := mixL S.L i } noW ∧ FrW M M3 twT w wr ∧
      M3.tag = M.tag ∧ M3.hd .lst = M.hd .lst ∧ Seen wr n0 X (wide S) sn ∧ (∀ a, sn a ≤ i) ∧ X < wr.heap.size) (fun _ _ _ _ _ q _ => S.L.length - (intOf q).toNat)
    case atStart => exact ⟨0, M, fun _ => 0, by omega, rfl, rfl, by rw [mixL_zero]; exact HK3.out, HF3.out, rfl, rfl, HSN.out, fun _ => by simp, HX.out.2.1⟩
    case round =>
      obtain ⟨i, M3, sn, hi, rfl, rfl, hkk, hff, htg, hll, hsn, hle, hxs⟩ := hrel
      have hMK3 : M3.K = M.K := hff.K
      have HKK := Lib.hid hkk
      have HFF := Lib.hid hff
      have HLL := Lib.hid hll
      have HTG := Lib.hid htg
      have HSN3 := Lib.hid hsn
      have HLE := Lib.hid hle
      by_cases hlt : i < S.L.length
      · obtain ⟨c, hc⟩ : ∃ c, S.L[i]? = some c := ⟨_, List.getElem?_eq_getElem hlt⟩
        obtain ⟨g, cap, e1, e2, e3, e4, er, ca, cc, es⟩ := hkk.clause (hno _) (hno _) (i := i) (c := c) (mixL_at hc)
        have e1 : M3.hd .lst = .slice (some ⟨g, 0, none⟩) (mixL S.L i).length cap := e1
        rw [mixL_len, hll, HL0.out] at e1
        cases e1
        rw [es] at e2
        have hiI : (i : Int) < (S.L.length : Int) := by omega
        have HFD := Lib.hid (show ((S.L.take (i + 1)).any fun c => !decide c.Nodup) = (((S.L.take i).any fun c => !decide c.Nodup) || !decide c.Nodup) from by rw [take_snoc _ i c hc]; simp [List.any_append])
        have HC := Lib.hid hc
        have HES := Lib.hid es
        have HL3 := Lib.hid (show M3.hd .lst = .slice (some ⟨g, 0, none⟩) (mixL S.L i).length lc from by rw [mixL_len, hll]; exact HL0.out)
        have hdl := dd_len_le c
        have hcl6 : c.length ≤ 1000000 := by have h1 := size_mem (List.mem_of_getElem? hc); have h2 := HS.out.size; omega
        generalize hfd : ((S.L.take i).any fun c => !decide c.Nodup) = fd at HFD ⊢
        clear hfd
        by_cases hc0 : c = []
        · subst hc0
          have hrow := (hkk.row (.cl i) rfl (hno _)).rd
          have hshape : (ca = none ∧ cc = 0) ∨ ∃ b, ca = some b := by
            cases ca with
            | some b => exact .inr ⟨b, rfl⟩
            | none =>
              rcases hrow with ⟨⟨a, h1⟩, _⟩ | ⟨gg, cp, h1, _⟩
              · rw [es] at h1; injection h1 with _ _ h1; exact .inl ⟨rfl, h1⟩
              · rw [es] at h1; injection h1 with h1; cases h1
          have HKN := Lib.hid (show KW (wr.setCell ⟨g, i, none⟩ (.slice ca 0 cc)) n0 M3 { S with L := mixL S.L (i + 1) } noW from by
            have h1 := hkk.sameHd (k := i) (by show i < (mixL S.L i).length; rw [mixL_len]; exact hlt) HL3.out
            rw [es] at h1
            have h2 : mixL S.L (i + 1) = mixL S.L i := by
              rw [← mixL_set hc]
              exact (set_self29 (mixL_at hc)).trans rfl
            rw [h2]
            exact h1)
          have HFN := Lib.hid (show FrW M M3 twT w (wr.setCell ⟨g, i, none⟩ (.slice ca 0 cc)) from hff.trans (FrW.put (ts := twT) _ M3 _ _ (.inl e4)))
          have HSN4 := Lib.hid (show Seen (wr.setCell ⟨g, i, none⟩ (.slice ca 0 cc)) n0 X (wide S) sn from hsn.kept (row := some g) ⟨rfl, rfl, rfl, by simp, fun k _ hk => heap_setCell_other wr _ k _ (fun e => hk (by simp [e]))⟩ (fun e => by
            have h1 := HX.out.1
            rw [← htg, ← Option.some.inj e, e4] at h1
            cases h1))
          have HNF := Lib.hid (show (fd || !decide ([] : List Int).Nodup) = fd from by simp)
          have HC2 := Lib.hid hlt
          clear hkk hff hll htg hsn hle er es hrow hc
          rcases hshape with ⟨rfl, rfl⟩ | ⟨b, rfl⟩
          · skip
            have hq1' : wr.cell? ⟨M.K, 1, none⟩ = some (.slice (some ⟨g, 0, none⟩) S.L.length lc) := by
              have h1 := HKK.out.cLst (hno _)
              rw [hMK3, HLL.out, HL0.out] at h1
              exact h1
            cases fd
            all_goals
              go_wp2_with fail
              go_loopw [7, 36] (fun z q wr' => z = .slice none 0 0 ∧ q = .int .i64 0 ∧ wr' = wr) (fun _ _ _ => 0)
              case atStart => exact ⟨rfl, rfl, rfl⟩
              case round =>
                obtain ⟨rfl, rfl, rfl⟩ := hrel
                go_wp2_with fail
                go_round
                case rel => exact ⟨i + 1, M3, sn, by omega, by go_num, by rw [HFD.out]; rfl, HKN.out, HFN.out, HTG.out, HLL.out, HSN4.out, fun a => by have := HLE.out a; omega, by simpa using hxs⟩
                case measure => simp [intOf]; omega
          · skip
            have hq1' : wr.cell? ⟨M.K, 1, none⟩ = some (.slice (some ⟨g, 0, none⟩) S.L.length lc) := by
              have h1 := HKK.out.cLst (hno _)
              rw [hMK3, HLL.out, HL0.out] at h1
              exact h1
            cases fd
            all_goals
              go_wp2_with fail
              go_loopw [7, 36] (fun z q wr' => z = .slice (some b) 0 cc ∧ q = .int .i64 0 ∧ wr' = wr) (fun _ _ _ => 0)
              case atStart => exact ⟨rfl, rfl, rfl⟩
              case round =>
                obtain ⟨rfl, rfl, rfl⟩ := hrel
                go_wp2_with fail
                go_round
                case rel => exact ⟨i + 1, M3, sn, by omega, by go_num, by rw [HFD.out]; rfl, HKN.out, HFN.out, HTG.out, HLL.out, HSN4.out, fun a => by have := HLE.out a; omega, by simpa using hxs⟩
                case measure => simp [intOf]; omega
        · have hrow := (hkk.row (.cl i) rfl (hno _)).own (.inr ⟨HB.out, by
            show ((mixL S.L i).getD i []).map iV ≠ []
            rw [List.getD, mixL_at hc]
            intro h
            exact hc0 (List.map_eq_nil_iff.1 h)⟩)
          have hct : ctW { S with L := mixL S.L i } M3.hd (.cl i) = c.map iV := by
            show ((mixL S.L i).getD i []).map iV = _
            rw [List.getD, mixL_at hc]; rfl
          rw [hct, List.length_map, es] at hrow
          obtain ⟨gc, rfl⟩ : ∃ gc, ca = some ⟨gc, 0, none⟩ := by
            obtain ⟨_, h2⟩ := hrow
            rcases h2 with ⟨_, h2⟩ | ⟨gg, _, _, h2, _⟩
            · exact absurd (List.eq_nil_of_length_eq_zero h2) hc0
            · injection h2 with h2
              exact ⟨gg, h2⟩
          obtain ⟨hri, hgn0, hcc1, hcc2⟩ := RowI.of hrow
          have htc : M3.tag gc = .cl i := by
            rcases hkk.th (.cl i) gc rfl (by rw [es]; rfl) with h1 | ⟨_, a, h1⟩
            · exact h1
            · rw [es] at h1
              injection h1 with _ h2 _
              exact absurd (List.eq_nil_of_length_eq_zero h2) hc0
          have HGX := Lib.hid (show gc ≠ X from fun e => by
            have h1 := HX.out.1
            rw [← htg, ← e, htc] at h1
            cases h1)
          have HTC := Lib.hid htc
          have HKO := Lib.hid (show KW wr n0 M3 { S with L := mixL S.L i } (orW noW (.cl i)) from hkk.less (fun t ht => ht.elim))
          have HRI := Lib.hid hri
          have HGN := Lib.hid hgn0
          have hccI : (cc : Int) ≤ 9223372036854775807 := by unfold maxLen at hcc2; omega
          have hcI : (c.length : Int) ≤ 1000000 := by omega
          have hccJ : (c.length : Int) ≤ (cc : Int) := by omega
          have HCM := Lib.hid hcc2
          have hq1' : wr.cell? ⟨M.K, 1, none⟩ = some (.slice (some ⟨g, 0, none⟩) S.L.length lc) := by
            have h1 := HKK.out.cLst (hno _)
            rw [hMK3, HLL.out, HL0.out] at h1
            exact h1
          have HLT := Lib.hid (show ∀ x ∈ c, -(S.vars : Int) ≤ x ∧ x ≤ (S.vars : Int) from fun x hx => by have := HS.out.lits c (List.mem_of_getElem? hc) x hx; omega)
          have hno1 : ∀ t, t ≠ .cl i → ¬ orW noW (.cl i) t := fun t h1 h2 => h2.elim (fun h => h) h1
          have HNO1 := Lib.hid hno1
          have hi1w : IntKind.i64.wrap ((i : Int) + 1) = (i : Int) + 1 := IntWalk.i64_in _ ⟨by omega, by omega⟩
          have HE4 := Lib.hid e4
          clear hkk hff hll htg hsn hle er es hrow hc hri hgn0 hct htc hno1 hcc2 e4
          go_wp2_with fail
          go_loopw [7, 36] (fun z q wr' => ∃ j : Nat, ∃ sn' : Nat → Int, j ≤ c.length ∧ q = .int .i64 j ∧ z = .slice (some ⟨gc, 0, none⟩) (dd (c.take j)).length cc ∧ KW wr' n0 M3 { S with L := mixL S.L i } (orW noW (.cl i)) ∧ RowI wr' gc cc c (dd (c.take j)) j ∧ Seen wr' n0 X (wide S) sn' ∧
            (∀ a, sn' a = (i : Int) + 1 ↔ ∃ n ∈ c.take j, posN S.vars n = a) ∧ (∀ a, sn' a ≤ (i : Int) + 1) ∧ FrW M M3 (fun t => twT t) w wr' ∧ X < wr'.heap.size) (fun _ q _ => c.length - (intOf q).toNat)
          case atStart => exact ⟨0, sn, by omega, rfl, rfl, HKO.out, HRI.out, HSN3.out, fun a => ⟨fun h => by have := HLE.out a; omega, fun h => by simp at h⟩, fun a => by have := HLE.out a; omega, HFF.out, hxs⟩
          case round =>
            obtain ⟨j, sn', hj, rfl, rfl, hkk, hri, hsn, hse, hsl, hff, hxs'⟩ := hrel
            have HKK2 := Lib.hid hkk
            have HRI2 := Lib.hid hri
            have HSN2 := Lib.hid hsn
            have HSE := Lib.hid hse
            have HSL := Lib.hid hsl
            have HFF2 := Lib.hid hff
            have hddl : (dd (c.take j)).length ≤ j := Nat.le_trans (dd_len_le _) (by rw [List.length_take]; omega)
            by_cases hlt2 : j < c.length
            · obtain ⟨x, hx⟩ : ∃ x, c[j]? = some x := ⟨_, List.getElem?_eq_getElem hlt2⟩
              have hxc := hri.cell hx
              have hx2 := HLT.out x (List.mem_of_getElem? hx)
              obtain ⟨a, ha⟩ : ∃ a : Nat, x + (S.vars : Int) = (a : Int) := ⟨(x + (S.vars : Int)).toNat, by omega⟩
              have hpa : posN S.vars x = a := by unfold posN; rw [ha]; simp
              have haw : a < wide S := by unfold wide; omega
              have HAT := Lib.hid (at29_any hkk (HNO1.out _ (by simp)) x a ha (by omega))
              rw [hMK3] at HAT
              obtain ⟨hxa, hfa⟩ := hsn.cell haw
              have hji : (j : Int) < (c.length : Int) := by omega
              have haI : (a : Int) < ((wide S : Nat) : Int) := by omega
              have hwI : ((wide S : Nat) : Int) ≤ 1000000 := by omega
              have hzb := hsl a
              have HDD := Lib.hid (show dd (c.take (j + 1)) = if x ∈ c.take j then dd (c.take j) else dd (c.take j) ++ [x] from by
                rw [take_snoc _ j x hx, dd_snoc]
                by_cases h : x ∈ c.take j
                · rw [if_pos h, if_pos ((mem_dd _ _).2 h)]
                · rw [if_neg h, if_neg (fun e => h ((mem_dd _ _).1 e))])
              have HIN := Lib.hid (show sn' a = (i : Int) + 1 ↔ x ∈ c.take j from by
                rw [hse a]
                constructor
                · rintro ⟨n, hn, h2⟩
                  have hn2 := HLT.out n (List.mem_of_mem_take hn)
                  have : n = x := by unfold posN at h2; omega
                  rw [← this]; exact hn
                · intro h; exact ⟨x, h, hpa⟩)
              by_cases hin : x ∈ c.take j
              · have hza : sn' a = (i : Int) + 1 := HIN.out.2 hin
                rw [hza] at hxa
                have HDE := Lib.hid (show dd (c.take (j + 1)) = dd (c.take j) from by rw [HDD.out, if_pos hin])
                have HSE2 := Lib.hid (show ∀ b, sn' b = (i : Int) + 1 ↔ ∃ n ∈ c.take (j + 1), posN S.vars n = b from fun b => by
                  rw [hse b, take_snoc _ j x hx]
                  constructor
                  · rintro ⟨n, hn, h2⟩; exact ⟨n, by simp [hn], h2⟩
                  · rintro ⟨n, hn, h2⟩
                    rcases List.mem_append.1 hn with hn | hn
                    · exact ⟨n, hn, h2⟩
                    · simp at hn; subst hn; exact ⟨n, hin, h2⟩)
                clear hkk hri hsn hse hsl hff hx hx2 ha hpa haw hfa hzb hza hin
                generalize hwd : wide S = wd at haI hwI HSN2 ⊢
                clear hwd
                go_wp2_with fail
                refine HAT.out.mono ?_
                rintro e w1 ⟨rfl, hw⟩
                obtain rfl : wr = w1 := hw.symm
                go_wp2_with fail
                go_round
                case rel => exact ⟨j + 1, sn', by omega, by go_num, by rw [HDE.out], HKK2.out, by rw [HDE.out]; exact HRI2.out.next, HSN2.out, HSE2.out, HSL.out, HFF2.out, hxs'⟩
                case measure => simp [intOf]; omega
              · have hza : sn' a ≠ (i : Int) + 1 := fun e => hin (HIN.out.1 e)
                obtain ⟨z, hz⟩ : ∃ z, z = sn' a := ⟨_, rfl⟩
                rw [← hz] at hxa hza hzb
                have hz2 := hza
                have hzf : (z == (i : Int) + 1) = false := by simp; exact hza
                have HDE := Lib.hid (show dd (c.take (j + 1)) = dd (c.take j) ++ [x] from by rw [HDD.out, if_neg hin])
                have hpt := hsn.put (a := a) (z := (i : Int) + 1) (f := fun b => if b = a then (i : Int) + 1 else sn' b) (fun b => rfl)
                have HKP := Lib.hid (hkk.seen (by rw [HTG.out]; exact HX.out.1) hpt.2)
                have HFP := Lib.hid (show FrW M M3 (fun t => twT t) w (wr.setCell ⟨X, a, none⟩ (.int .i64 ((i : Int) + 1))) from ⟨hff.os, hff.tape, hff.output, Nat.le_trans hff.size hpt.2.size, fun b hb hn => (hpt.2.block b (Nat.lt_of_lt_of_le hb hff.size) (fun e => by have h1 := HX.out.2.2; have h2 := Option.some.inj e; omega)).trans (hff.block b hb hn), hff.tags, hff.K⟩)
                have HRP := Lib.hid (hri.kept (hpt.2.block gc hri.lt (fun e => HGX.out (Option.some.inj e))))
                have HSP := Lib.hid hpt.1
                have HSE2 := Lib.hid (show ∀ b, (if b = a then (i : Int) + 1 else sn' b) = (i : Int) + 1 ↔ ∃ n ∈ c.take (j + 1), posN S.vars n = b from fun b => by
                  rw [take_snoc _ j x hx]
                  by_cases hba : b = a
                  · subst hba
                    rw [if_pos rfl]
                    exact ⟨fun _ => ⟨x, by simp, hpa⟩, fun _ => rfl⟩
                  · rw [if_neg hba, hse b]
                    constructor
                    · rintro ⟨n, hn, h2⟩; exact ⟨n, by simp [hn], h2⟩
                    · rintro ⟨n, hn, h2⟩
                      rcases List.mem_append.1 hn with hn | hn
                      · exact ⟨n, hn, h2⟩
                      · simp at hn; subst hn; exact absurd (h2.symm.trans hpa) hba)
                have HSL2 := Lib.hid (show ∀ b, (if b = a then (i : Int) + 1 else sn' b) ≤ (i : Int) + 1 from fun b => by
                  by_cases hba : b = a
                  · rw [if_pos hba]; omega
                  · rw [if_neg hba]; exact hsl b)
                clear hkk hri hsn hse hsl hff hx hx2 ha hpa haw hz hpt
                generalize hwd : wide S = wd at haI hwI HSP ⊢
                go_wp2_with fail
                refine HAT.out.mono ?_
                rintro e w1 ⟨rfl, hw⟩
                obtain rfl : wr = w1 := hw.symm
                go_wp2_with fail
                refine HAT.out.mono ?_
                rintro e w1 ⟨rfl, hw⟩
                obtain rfl : wr = w1 := hw.symm
                go_upto_region 14 with fail
                generalize wr.setCell ⟨X, a, none⟩ (.int .i64 ((i : Int) + 1)) = W2 at HKP HFP HRP HSP ⊢
                have hrp := HRP.out
                go_wp2_with (at_builtin
                             refine appI29 rfl _ _ rfl hrp (by rfl) (by rfl) hddl hlt2 (by omega) ?_)
                intro w5 hr5 hg5
                have HR5 := Lib.hid hr5
                have HK5 := Lib.hid (HKP.out.keep (ex' := orW noW (.cl i)) hg5 (fun t _ hx => hx.elim id (fun ⟨b, hb, ht⟩ => .inr (by rw [← ht, ← Option.some.inj hb]; exact HTC.out))))
                have HF5 := Lib.hid (show FrW M M3 (fun t => twT t) w w5 from HFP.out.trans (FrW.of hg5 (fun b hb => by rw [← Option.some.inj hb, HTC.out]; exact .inr ⟨i, rfl⟩)))
                have HS5 := Lib.hid (HSP.out.kept hg5 (fun e => HGX.out (Option.some.inj e)))
                have hx5 : X < w5.heap.size := (HS5.out.lt X rfl).2
                clear hrp hr5 hg5
                go_wp2_with fail
                go_round
                case rel => exact ⟨j + 1, _, by omega, by go_num, by rw [HDE.out, List.length_append, List.length_singleton], HK5.out, by rw [HDE.out]; exact HR5.out, HS5.out, HSE2.out, HSL2.out, HF5.out, hx5⟩
                case measure => simp [intOf]; omega
            · have hji : (c.length : Int) ≤ (j : Int) := by omega
              have htk : c.take j = c := List.take_of_length_le (by omega)
              rw [htk] at HRI2 ⊢
              have hown := RowI.own HRI2.out HGN.out (by omega) HCM.out
              have hfc := hkk.fillCl (k := i) (d := dd c) (by show i < (mixL S.L i).length; rw [mixL_len]; exact hlt) HL3.out hown (fun b hb => by
                have : gc = b := Option.some.inj hb
                rw [← this]; exact HTC.out)
              have HKN := Lib.hid (show KW (wr.setCell ⟨g, i, none⟩ (.slice (some ⟨gc, 0, none⟩) (dd c).length cc)) n0 ⟨M3.K, putH M3.hd (.cl i) (.slice (some ⟨gc, 0, none⟩) (dd c).length cc), M3.tag⟩ { S with L := mixL S.L (i + 1) } noW from by
                rw [← mixL_set HC.out]; exact hfc.1)
              have HFN := Lib.hid (show FrW M ⟨M3.K, putH M3.hd (.cl i) (.slice (some ⟨gc, 0, none⟩) (dd c).length cc), M3.tag⟩ twT w (wr.setCell ⟨g, i, none⟩ (.slice (some ⟨gc, 0, none⟩) (dd c).length cc)) from (show FrW M M3 twT w wr from hff).trans (hfc.2.mono (fun t ht => .inl ht)))
              have HSN4 := Lib.hid (show Seen (wr.setCell ⟨g, i, none⟩ (.slice (some ⟨gc, 0, none⟩) (dd c).length cc)) n0 X (wide S) sn' from hsn.kept (row := some g) ⟨rfl, rfl, rfl, by simp, fun k _ hk => heap_setCell_other wr _ k _ (fun e => hk (by simp [e]))⟩ (fun e => by
                have h1 := HX.out.1
                rw [← HTG.out, ← Option.some.inj e, HE4.out] at h1
                cases h1))
              have HDN := Lib.hid (dd_len c)
              have hq2 : wr.cell? ⟨M.K, 1, none⟩ = some (.slice (some ⟨g, 0, none⟩) S.L.length lc) := by
                have h1 := hkk.cLst (HNO1.out _ (by simp))
                rw [hMK3, HLL.out, HL0.out] at h1
                exact h1
              obtain ⟨gg, cg, v1, v2, v3, _⟩ := hkk.at (t := .lst) rfl (HNO1.out _ (by simp)) (j := i) (x := M3.hd (.cl i)) (by
                show ((List.range (mixL S.L i).length).map fun i => M3.hd (.cl i))[i]? = _
                rw [List.getElem?_map, mixL_len, List.getElem?_range hlt]; rfl)
              have e7 : (ctW ({ S with L := mixL S.L i } : Ws) M3.hd .lst).length = S.L.length := by
                show ((List.range (mixL S.L i).length).map fun i => M3.hd (.cl i)).length = _
                rw [List.length_map, List.length_range, mixL_len]
              rw [HLL.out, HL0.out, e7] at v1
              cases v1
              rw [HES.out] at v2
              have hdc6 : (dd c).length ≤ 1000000 := by omega
              clear hkk hri hsn hse hsl hff hown hfc htk
              generalize (dd c).length = dl at HKN HFN HSN4 HDN hdl hdc6 ⊢
              have hdlI : (dl : Int) ≤ (c.length : Int) := by omega
              cases fd with
              | true =>
                go_wp2_with fail
                go_round
                case rel => exact ⟨i + 1, _, sn', by omega, by go_num, by rw [HFD.out]; rfl, HKN.out, HFN.out, HTG.out, (putH_ne (t := .cl i) (s := .lst) M3.hd (.slice (some ⟨gc, 0, none⟩) dl cc) (by simp)).trans HLL.out, HSN4.out, fun a => by have := HSL.out a; omega, by simpa using hxs'⟩
                case measure => simp [intOf]; omega
              | false =>
                by_cases hdlt : dl < c.length
                · have hdI : (dl : Int) < (c.length : Int) := by omega
                  have hND : (!decide c.Nodup) = true := by simpa using HDN.out.1 hdlt
                  go_wp2_with fail
                  go_round
                  case rel => exact ⟨i + 1, _, sn', by omega, by go_num, by rw [HFD.out, hND]; rfl, HKN.out, HFN.out, HTG.out, (putH_ne (t := .cl i) (s := .lst) M3.hd (.slice (some ⟨gc, 0, none⟩) dl cc) (by simp)).trans HLL.out, HSN4.out, fun a => by have := HSL.out a; omega, by simpa using hxs'⟩
                  case measure => simp [intOf]; omega
                · have hdI : (c.length : Int) ≤ (dl : Int) := by omega
                  have hND : (!decide c.Nodup) = false := by
                    cases hq : decide c.Nodup with
                    | true => rfl
                    | false => exact absurd (HDN.out.2 (of_decide_eq_false hq)) hdlt
                  go_wp2_with fail
                  go_round
                  case rel => exact ⟨i + 1, _, sn', by omega, by go_num, by rw [HFD.out, hND]; rfl, HKN.out, HFN.out, HTG.out, (putH_ne (t := .cl i) (s := .lst) M3.hd (.slice (some ⟨gc, 0, none⟩) dl cc) (by simp)).trans HLL.out, HSN4.out, fun a => by have := HSL.out a; omega, by simpa using hxs'⟩
                  case measure => simp [intOf]; omega
      · have hiI : (S.L.length : Int) ≤ (i : Int) := by omega
        have hii : i = S.L.length := by omega
        subst hii
        have HN := Lib.hid (show KW wr n0 M3 { S with L := S.L.map dd } noW from by rw [← mixL_all]; exact hkk)
        rw [List.take_length]
        clear hkk hff hll htg hsn hle
        go_wp2
        go_ret
        refine ⟨rfl, M3, ?_, HFF.out⟩
        have e := HN.out
        rw [HB.out] at e
        exact e
end
end Go.Proofs.Ytlcbfahaapodmaa
