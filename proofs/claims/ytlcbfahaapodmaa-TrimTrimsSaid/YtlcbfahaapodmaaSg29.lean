/-
  Layer 29: a clause's row is another one; what single does. Own work.
-/
import Derived.Test.YtlcbfahaapodmaaWo29
namespace Go.Proofs.Ytlcbfahaapodmaa
set_option linter.unusedVariables false
set_option linter.unusedSimpArgs false
open Go.RowKit

/-- literal n out of clause number k -/
def cutS (n : Int) (S : Ws) (k : Nat) : Ws :=
  if n ∈ S.L.getD k [] ∧ S.G.getD k false = false then { S with L := S.L.set k ((S.L.getD k []).eraseIdx ((S.L.getD k []).idxOf n)), cn := fun a => if a = posN S.vars n then S.cn a - 1 else S.cn a } else S
def cutsS (n : Int) (S : Ws) (l : List Nat) : Ws := l.foldl (cutS n) S
theorem cutsS_snoc (n : Int) (S : Ws) (l : List Nat) (k : Nat) : cutsS n S (l ++ [k]) = cutS n (cutsS n S l) k := by simp [cutsS]
section
variable {w w1 : World} {n0 : Nat} {M : Wm} {S : Ws} {ex : Tw → Prop}
theorem topW_cl (S : Ws) (hd : Tw → Value) (k : Nat) (v : Value) (L : Cs) : topW { S with L := L } (putH hd (.cl k) v) = topW S hd := by
  unfold topW
  simp [putH]
/-- clause number k is d now, and its row's header v' -/
theorem KW.newCl (h : KW w n0 M S noW) (hp : S.pl = true) {k g cap : Nat} {c d : List Int} {v' : Value} (hc : S.L[k]? = some c) (hcne : c ≠ []) (hl : M.hd .lst = .slice (some ⟨g, 0, none⟩) S.L.length cap) (hg : w.grownBy w1 none)
    (hr : RdO w1 n0 3 v' (d.map iV)) (hat : v'.ownBlock = (M.hd (.cl k)).ownBlock ∨ ∃ q, v'.ownBlock = some q ∧ w.heap.size ≤ q ∧ q < w1.heap.size) :
    ∃ f, KW (w1.setCell ⟨g, k, none⟩ v') n0 ⟨M.K, putH M.hd (.cl k) v', f⟩ { S with L := S.L.set k d } noW ∧ FrW M ⟨M.K, putH M.hd (.cl k) v', f⟩ (fun t => t = .lst) w (w1.setCell ⟨g, k, none⟩ v') := by
  have hno : ∀ t, ¬ noW t := fun t h => h
  have hk := (List.getElem?_eq_some_iff.1 hc).1
  obtain ⟨f, hk1, hf1, hf2⟩ : ∃ f, KW w1 n0 { M with tag := f } S noW ∧ (∀ b, v'.ownBlock = some b → f b = .cl k) ∧ ∀ b, b < w.heap.size → f b = M.tag b := by
    have h1 := h.keep0 hg
    rcases hat with hat | ⟨q, hq, hq1, hq2⟩
    · refine ⟨M.tag, h1, fun b hb => ?_, fun _ _ => rfl⟩
      rcases h.th (.cl k) b rfl (hat ▸ hb) with h2 | ⟨_, a, h2⟩
      · exact h2
      · obtain ⟨_, _, _, _, _, _, _, a2, c2, h3⟩ := h.clause (hno _) (hno _) hc
        rw [h2] at h3
        injection h3 with _ h4 _
        exact absurd (List.eq_nil_of_length_eq_zero h4.symm) hcne
    · have hf : M.tag q = .free := h.fresh q hq1
      refine ⟨tagW M.tag q (.cl k), h1.retag hf (Nat.le_trans h.base hq1) hq2, fun b hb => ?_, fun b hb => ?_⟩
      · rw [hq] at hb
        cases hb
        unfold tagW
        rw [if_pos rfl]
      · unfold tagW
        rw [if_neg (by omega)]
  have hct : ctW S M.hd .lst = (List.range S.L.length).map fun i => M.hd (.cl i) := rfl
  have ho : w1.ownsRow n0 27 1 (M.hd .lst) S.L.length ((List.range S.L.length).map fun i => M.hd (.cl i)) := by
    have := (hk1.row .lst rfl (hno _)).own (.inl rfl)
    rw [show ctW S ({ M with tag := f } : Wm).hd .lst = (List.range S.L.length).map fun i => M.hd (.cl i) from rfl, List.length_map, List.length_range] at this
    exact this
  rw [hl] at ho
  obtain ⟨ho2, hg2⟩ := ho.stored k v'
  have htg : f g = .lst := hk1.thn (t := .lst) rfl rfl (by show (M.hd .lst).ownBlock = _; rw [hl]; rfl)
  have hk2 := hk1.keep (ex' := orW noW .lst) hg2 (fun s _ hs => hs.elim .inl (fun ⟨b, hb, hs⟩ => .inr (by rw [← hs, ← Option.some.inj hb]; exact htg)))
  have hne : ∀ s, s ≠ .lst → ¬ orW noW .lst s := fun s h1 h2 => h2.elim (hno _) h1
  refine ⟨f, hk2.to (ex' := noW) rfl rfl (fun e => e) (fun e => ?_) (fun s hs e => ?_) (fun s b hs hb => ?_), ⟨hg2.os.trans hg.os, hg2.tape.trans hg.tape, hg2.output.trans hg.output, Nat.le_trans hg.size hg2.size, fun b hb hn => ?_, hf2, rfl⟩⟩
  · have := hk2.top (hne _ (by simp))
    rw [topW_cl]
    exact this
  · by_cases hsl : s = .lst
    · subst hsl
      refine .inr (.inl ?_)
      have e1 : ctW { S with L := S.L.set k d } (putH M.hd (.cl k) v') .lst = ((List.range S.L.length).map fun i => M.hd (.cl i)).set k v' := by
        show (List.range (S.L.set k d).length).map (fun i => putH M.hd (.cl k) v' (.cl i)) = _
        rw [range_set, List.length_set]
        congr 1
        funext i
        unfold putH
        by_cases hik : i = k
        · rw [if_pos (by rw [hik]), if_pos hik]
        · rw [if_neg (by simpa using hik), if_neg hik]
      show World.ownsRow _ n0 (tyW .lst) 1 (putH M.hd (.cl k) v' .lst) (ctW { S with L := S.L.set k d } (putH M.hd (.cl k) v') .lst).length (ctW { S with L := S.L.set k d } (putH M.hd (.cl k) v') .lst)
      rw [e1, putH_ne _ _ (by simp), hl, List.length_set, List.length_map, List.length_range]
      exact ho2
    · by_cases hsk : s = .cl k
      · subst hsk
        refine .inr (.inr ⟨rfl, .inl hp, ?_⟩)
        have e1 : ctW { S with L := S.L.set k d } (putH M.hd (.cl k) v') (.cl k) = d.map iV := by
          show ((S.L.set k d).getD k []).map iV = _
          rw [List.getD, List.getElem?_set_self hk]; rfl
        show RdO _ n0 (tyW (.cl k)) (putH M.hd (.cl k) v' (.cl k)) (ctW { S with L := S.L.set k d } (putH M.hd (.cl k) v') (.cl k))
        rw [e1, putH_same]
        refine hr.kept hg2 ?_
        cases hb : v'.ownBlock with
        | none => exact .inl rfl
        | some b => exact .inr (fun e => by
            have e2 := hf1 b hb
            rw [Option.some.inj e, htg] at e2
            cases e2)
      · refine .inl ⟨hne s hsl, putH_ne _ _ hsk, ?_⟩
        cases s with
        | cl i =>
          have hik : i ≠ k := fun e => hsk (by rw [e])
          show ((S.L.set k d).getD i []).map iV = (S.L.getD i []).map iV
          rw [List.getD, List.getElem?_set_ne (fun e => hik e.symm)]; rfl
        | std =>
          show (List.range (wide S)).map (fun a => putH M.hd (.cl k) v' (.st a)) = (List.range (wide S)).map fun a => M.hd (.st a)
          congr 1
        | lst => exact absurd rfl hsl
        | _ => rfl
  · by_cases hsk : s = .cl k
    · subst hsk
      right
      have hb2 : (putH M.hd (.cl k) v' (.cl k)).ownBlock = some b := hb
      rw [putH_same] at hb2
      exact hf1 b hb2
    · left; exact putH_ne _ _ hsk
  · have hbg : b ≠ g := fun e => hn (by rw [e]; exact h.thn (t := .lst) rfl rfl (by rw [hl]; rfl))
    exact (hg2.block b (Nat.lt_of_lt_of_le hb hg.size) (fun e => hbg (Option.some.inj e))).trans (hg.block b hb (fun e => by cases e))
end
end Go.Proofs.Ytlcbfahaapodmaa
