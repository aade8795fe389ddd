/-
  Layer 29: drop. Own work.
-/
import Derived.Test.YtlcbfahaapodmaaAt29
namespace Go.Proofs.Ytlcbfahaapodmaa
set_option linter.unusedVariables false
set_option linter.unusedSimpArgs false
open Go.RowKit

def posN (vars : Nat) (n : Int) : Nat := (n + (vars : Int)).toNat
/-- how often a literal with place a stands in c -/
def occN (vars : Nat) (c : List Int) (a : Nat) : Nat := (c.filter fun n => posN vars n == a).length
def subN (S : Ws) (c : List Int) : Nat → Int := fun a => S.cn a - (occN S.vars c a : Int)
/-- clause number i goes -/
def dropS (S : Ws) (i : Nat) : Ws := if S.G.getD i false = true then S else { S with G := S.G.set i true, cn := subN S (S.L.getD i []) }
def gcT : Tw → Prop := fun t => t = .gon ∨ t = .cnt
theorem range_set {f : Nat → Value} {n a : Nat} {u : Value} : ((List.range n).map f).set a u = (List.range n).map fun b => if b = a then u else f b := by
  apply List.ext_getElem?
  intro j
  rw [List.getElem?_set, List.getElem?_map, List.getElem?_map]
  by_cases hj : j < n
  · rw [List.getElem?_range hj]
    by_cases h : a = j
    · subst h; simp [hj]
    · rw [if_neg h]; simp; intro e; exact absurd e.symm h
  · have : (List.range n)[j]? = none := by simp; omega
    rw [this]
    by_cases h : a = j
    · subst h; simp [hj]
    · rw [if_neg h]; rfl
theorem occN_take {vars : Nat} {c : List Int} {k : Nat} {x : Int} (hx : c[k]? = some x) (a : Nat) : occN vars (c.take (k + 1)) a = occN vars (c.take k) a + if posN vars x = a then 1 else 0 := by
  unfold occN
  rw [take_snoc _ k x hx, List.filter_append, List.length_append]
  by_cases h : posN vars x = a <;> simp [h]
theorem occN_le (vars : Nat) (c : List Int) (a : Nat) : occN vars c a ≤ c.length := List.length_filter_le _ _
theorem reads_elem {α : Type} {w : World} {f : α → Value} {a : Option Addr} {n c k : Nat} {l : List α} {x : α} (h : Reads w f (.slice a n c) l) (hx : l[k]? = some x) : ∃ b, a = some b ∧ w.cell? (b.add k) = some (f x) := by
  rcases h with ⟨_, rfl⟩ | ⟨b, cap, h, _, _, h3⟩
  · simp at hx
  · cases h; exact ⟨b, rfl, h3 k x hx⟩
section
variable {w : World} {n0 : Nat} {M : Wm} {S : Ws} {ex : Tw → Prop}
/-- a clause is marked as gone -/
theorem KW.gone (h : KW w n0 M S ex) (h2 : ¬ ex .gon) {i g cap : Nat} (hg : M.hd .gon = .slice (some ⟨g, 0, none⟩) S.G.length cap) :
    KW (w.setCell ⟨g, i, none⟩ (.bool true)) n0 M { S with G := S.G.set i true } ex := by
  refine h.put (t := .gon) rfl rfl h2 (cap := cap) (by rw [hg]; show _ = Value.slice _ (S.G.map bV).length _; rw [List.length_map]) (.bool true) rfl rfl ?_ ?_
  · show (S.G.set i true).map bV = (S.G.map bV).set i (.bool true)
    rw [List.map_set]; rfl
  · intro s hs hne _
    cases s <;> first | rfl | exact absurd rfl hne
/-- a count is written -/
theorem KW.count (h : KW w n0 M S ex) (h2 : ¬ ex .cnt) {a g cap : Nat} (hg : M.hd .cnt = .slice (some ⟨g, 0, none⟩) (wide S) cap) {z : Int} {f : Nat → Int} (hf : ∀ b, f b = if b = a then z else S.cn b) :
    KW (w.setCell ⟨g, a, none⟩ (.int .i64 z)) n0 M { S with cn := f } ex := by
  refine h.put (t := .cnt) rfl rfl h2 (cap := cap) (by rw [hg]; show _ = Value.slice _ ((List.range (wide S)).map fun a => iV (S.cn a)).length _; rw [List.length_map, List.length_range]) (.int .i64 z) rfl rfl ?_ ?_
  · show (List.range (wide S)).map (fun a => iV (f a)) = ((List.range (wide S)).map fun a => iV (S.cn a)).set a (.int .i64 z)
    rw [range_set]
    congr 1
    funext b
    rw [hf b]
    by_cases hb : b = a <;> simp [hb, iV]
  · intro s hs hne _
    cases s <;> first | rfl | exact absurd rfl hne
set_option maxHeartbeats 4000000 in
set_option maxRecDepth 100000 in
theorem drop29_any (h : KW w n0 M S ex) (hx : ¬ ex .top) (h1 : ¬ ex .lst) (h2 : ¬ ex .gon) (h3 : ∀ i, ¬ ex (.cl i)) (h4 : ¬ ex .cnt) {i : Nat} {c : List Int} (hc : S.L[i]? = some c) (hG : S.G.length = S.L.length) (hL : S.L.length ≤ 1000000) (hv : S.vars ≤ 100000)
    (hl : ∀ n ∈ c, -(S.vars : Int) ≤ n ∧ n ≤ (S.vars : Int)) (hcl : c.length ≤ 1000000) (hcn : ∀ a, -1000000 ≤ S.cn a ∧ S.cn a ≤ 1000000) :
    Calls Try.prog 42 #[.pointer (some ⟨M.K, 0, none⟩), .int .i64 (i : Int)] w fun e w' => e = .returned (.tuple #[]) ∧ KW w' n0 M (dropS S i) ex ∧ FrW M M gcT w w' := by
  have hi := (List.getElem?_eq_some_iff.1 hc).1
  obtain ⟨b, hb⟩ : ∃ b, S.G[i]? = some b := ⟨_, List.getElem?_eq_getElem (by omega)⟩
  have hc1 := h.cLst hx
  have hc2 := h.cGon hx
  obtain ⟨g2, cap2, f1, f2, f3, f4⟩ := h.goneAt h2 hb
  rw [f1] at hc2
  have hgI : (i : Int) < (S.G.length : Int) := by omega
  have hgJ : (S.G.length : Int) ≤ 1000000 := by omega
  cases b with
  | true =>
    have HD := Lib.hid (show KW w n0 M (dropS S i) ex from by
      unfold dropS
      rw [if_pos (by simp [List.getD, hb])]
      exact h)
    clear h f1
    go_enter Try.func42, Try.ntmps42
    go_wp2
    (try simp only [Exit.inBlock, Exit.then])
    refine bodyPost_ret (results_none rfl _ _ _) rfl ?_
    exact ⟨rfl, HD.out, FrW.refl _ _ _⟩
  | false =>
    have hD : dropS S i = { S with G := S.G.set i true, cn := subN S c } := by
      unfold dropS
      rw [if_neg (by simp [List.getD, hb])]
      simp [List.getD, hc]
    have hS : ({ S with G := S.G.set i true } : Ws) = { S with G := S.G.set i true, cn := subN S (c.take 0) } := by
      have : subN S (c.take 0) = S.cn := by funext a; simp [subN, occN]
      rw [this]
    have hk0 := h.gone h2 (i := i) f1
    have hf0 : FrW M M gcT w (w.setCell ⟨g2, i, none⟩ (.bool true)) := FrW.put w M _ _ (.inl f4)
    rw [hS] at hk0
    have HD := Lib.hid hD
    have HK0 := Lib.hid hk0
    have HF0 := Lib.hid hf0
    obtain ⟨g, cap, e1, e2, e3, _, er, ca, cc, es⟩ := hk0.clause h1 (h3 i) (i := i) (c := c) hc
    have hq1 : (w.setCell ⟨g2, i, none⟩ (.bool true)).cell? ⟨M.K, 1, none⟩ = some (M.hd .lst) := hk0.cLst hx
    rw [e1] at hq1
    rw [es] at e2
    have e1' : M.hd .lst = .slice (some ⟨g, 0, none⟩) S.L.length cap := e1
    have hLI : (i : Int) < (S.L.length : Int) := by omega
    have hLJ : (S.L.length : Int) ≤ 1000000 := by omega
    have hcI : (c.length : Int) ≤ 1000000 := by omega
    have ES := Lib.hid es
    have HC := Lib.hid hc
    clear h hD hS hk0 hf0 f1 hc1 e1 er hc
    generalize hW : w.setCell ⟨g2, i, none⟩ (.bool true) = W at HK0 HF0 hq1 e2 e3
    have HW := Lib.hid hW
    go_enter Try.func42, Try.ntmps42
    go_upto_region 2 with fail
    clear hW
    go_wp2_with fail
    go_loopw [27] (fun q wr => ∃ k : Nat, k ≤ c.length ∧ q = .int .i64 k ∧ KW wr n0 M { S with G := S.G.set i true, cn := subN S (c.take k) } ex ∧ FrW M M gcT w wr) (fun i _ => c.length - (intOf i).toNat)
    case atStart => exact ⟨0, by omega, rfl, HK0.out, HF0.out⟩
    case round =>
      obtain ⟨k, hk, rfl, hkk, hff⟩ := hrel
      have HK := Lib.hid hkk
      have HF := Lib.hid hff
      by_cases hlt : k < c.length
      · obtain ⟨x, hxk⟩ : ∃ x, c[k]? = some x := ⟨_, List.getElem?_eq_getElem hlt⟩
        obtain ⟨b1, hb1⟩ : ∃ b1, ca = some b1 ∧ wr.cell? (b1.add k) = some (iV x) := by
          obtain ⟨_, _, _, _, _, _, hrd, _⟩ := hkk.clause h1 (h3 i) (i := i) (c := c) HC.out
          rw [ES.out] at hrd
          exact reads_elem hrd hxk
        obtain ⟨rfl, hxc⟩ := hb1
        have hxc' : wr.cell? (b1.add k) = some (.int .i64 x) := hxc
        have hb2 := hl x (List.mem_of_getElem? hxk)
        obtain ⟨a, ha⟩ : ∃ a : Nat, x + (S.vars : Int) = (a : Int) := ⟨(x + (S.vars : Int)).toNat, by omega⟩
        have hpa : posN S.vars x = a := by unfold posN; rw [ha]; simp
        have haw : a < 2 * S.vars + 1 := by omega
        have HAT := Lib.hid (at29_any hkk.drew hx x a ha (by omega))
        obtain ⟨gc, cc2, k1, k2, k3, k4⟩ := hkk.drew.cntAt h4 (a := a) haw
        have hcc := hkk.drew.cCnt hx
        have k1 : M.hd .cnt = .slice (some ⟨gc, 0, none⟩) (wide S) cc2 := k1
        rw [k1] at hcc
        have hzz : subN S (c.take k) a = S.cn a - (occN S.vars (c.take k) a : Int) := rfl
        have hol : occN S.vars (c.take k) a ≤ 1000000 := Nat.le_trans (occN_le _ _ _) (by rw [List.length_take]; omega)
        have hca := hcn a
        obtain ⟨z, hz⟩ : ∃ z, z = subN S (c.take k) a := ⟨_, rfl⟩
        have k2' : wr.drew.cell? ⟨gc, a, none⟩ = some (.int .i64 z) := by rw [hz]; exact k2
        have hzb : -3000000 ≤ z ∧ z ≤ 3000000 := by rw [hz, hzz]; omega
        have hzw : IntKind.i64.wrap (z - 1) = z - 1 := IntWalk.i64_in _ ⟨by omega, by omega⟩
        have HKN := Lib.hid (show KW (wr.drew.setCell ⟨gc, a, none⟩ (.int .i64 (z - 1))) n0 M { S with G := S.G.set i true, cn := subN S (c.take (k + 1)) } ex from
          hkk.drew.count h4 k1 (f := subN S (c.take (k + 1))) (fun b => by
            show S.cn b - (occN S.vars (c.take (k + 1)) b : Int) = if b = a then z - 1 else S.cn b - (occN S.vars (c.take k) b : Int)
            rw [occN_take hxk, hpa]
            by_cases hba : b = a
            · subst hba; rw [if_pos rfl, if_pos rfl, hz, hzz]; omega
            · rw [if_neg hba, if_neg (fun e => hba e.symm)]; simp))
        have HFN := Lib.hid (show FrW M M gcT w (wr.drew.setCell ⟨gc, a, none⟩ (.int .i64 (z - 1))) from
          hff.drew.trans (FrW.put (ts := gcT) _ M _ _ (Or.inr k4)))
        have haI : (a : Int) < ((wide S : Nat) : Int) := by unfold wide; omega
        have hwI : ((wide S : Nat) : Int) ≤ 1000000 := by unfold wide; omega
        have hkI : (k : Int) < (c.length : Int) := by omega
        clear hkk hff hxk k1 k2 hzz hol hca hz hpa ha haw hb2 hxc
        generalize hwd : wide S = wd at hcc haI hwI
        clear hwd
        go_wp2_with fail
        go_region_with (go_at_call 34; with_reducible refine HAT.out.mono ?_; rintro e w' ⟨rfl, rfl⟩)
        all_goals
          go_wp2_with fail
          go_round
          case rel => exact ⟨k + 1, by omega, by go_num, HKN.out, HFN.out⟩
          case measure => simp [intOf]; omega
      · have hkI : (c.length : Int) ≤ k := by omega
        have e : c.take k = c := List.take_of_length_le (by omega)
        go_wp2
        go_end0
        refine ⟨rfl, ?_, HF.out⟩
        rw [HD.out]
        have := HK.out
        rw [e] at this
        exact this
end
end Go.Proofs.Ytlcbfahaapodmaa
