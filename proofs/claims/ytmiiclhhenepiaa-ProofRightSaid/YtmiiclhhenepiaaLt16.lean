/-
  Layer 16: the literal of a number, the literals of a clause. Own work.
-/
import Derived.Test.YtmiiclhhenepiaaGo16
namespace Go.Proofs.Ytmiiclhhenepiaa
set_option linter.unusedVariables false
set_option linter.unusedSimpArgs false
open Go.RowKit Go.WideElems Go.MapKept

def vsPut (vs : List Nat) (n : Int) : List Nat := if n.natAbs ∈ vs then vs else vs ++ [n.natAbs]
def cd (vs : List Nat) (n : Int) : Nat := 2 * pl16 vs n.natAbs + (if n < 0 then 1 else 0)
theorem or_low16 (i b : Nat) (hb : b < 2) : 2 * i ||| b = 2 * i + b := by
  rcases (show b = 0 ∨ b = 1 by omega) with rfl | rfl
  · simp
  · have h1 : (2 * i ||| 1) / 2 = i := by rw [Nat.or_div_two]; simp
    have h2 := @Nat.or_mod_two_eq_one (2 * i) 1
    have : (2 * i ||| 1) % 2 = 1 := h2.2 (.inr rfl)
    omega
theorem or16 {x b : Nat} (h : x ≤ 1000000) (hb : b < 2) : bits .or .i64 ((2 * x : Nat) : Int) (b : Int) = ((2 * x + b : Nat) : Int) := by
  have h1 : (BitVec.ofInt 64 ((2 * x : Nat) : Int)).toNat = 2 * x := by
    rw [BitVec.ofInt_natCast, BitVec.toNat_ofNat]; exact Nat.mod_eq_of_lt (by omega)
  have h2 : (BitVec.ofInt 64 (b : Int)).toNat = b := by
    rw [BitVec.ofInt_natCast, BitVec.toNat_ofNat]; exact Nat.mod_eq_of_lt (by omega)
  show IntKind.i64.wrap ((BitVec.ofInt 64 ((2 * x : Nat) : Int) ||| BitVec.ofInt 64 (b : Int)).toNat : Int) = _
  rw [BitVec.toNat_or, h1, h2, or_low16 x b hb]
  exact IntWalk.i64_in _ ⟨by omega, by omega⟩
def numT : Tg → Prop := fun t => t = .num
set_option maxRecDepth 100000 in
set_option maxHeartbeats 4000000 in
theorem literal_any {w : World} {n0 : Nat} {M : Mm} {S : St} {ex : Tg → Prop} (h : KS w n0 M S ex) (h1 : ¬ ex .top) (h2 : ¬ ex .num) (n : Int) (hn0 : n ≠ 0) (hn1 : -9223372036854775808 ≤ n) (hn2 : n ≤ 9223372036854775807) (hv : S.vs.length ≤ 100000) :
    Calls Try.prog 29 #[.pointer (some ⟨M.K, 0, none⟩), .int .i64 n] w fun e w' => e = .returned (.int .i64 ((cd (vsPut S.vs n) n : Nat) : Int)) ∧ KS w' n0 M { S with vs := vsPut S.vs n } ex ∧ w.grownBy w' (some M.bN) := by
  have HK := Lib.hid h
  have hub : IntKind.u64.wrap n = n % 18446744073709551616 := IntKind.wrap_u64 n
  have hub2 : IntKind.u64.wrap (-(n + 18446744073709551616)) = (-(n + 18446744073709551616)) % 18446744073709551616 := IntKind.wrap_u64 _
  obtain ⟨V, hV⟩ : ∃ V, V = n.natAbs := ⟨_, rfl⟩
  obtain ⟨bl, hbl⟩ : ∃ bl : Nat, bl = if n < 0 then 1 else 0 := ⟨_, rfl⟩
  have hb2 : bl < 2 := by rw [hbl]; split <;> omega
  obtain ⟨vs, hvs⟩ : ∃ vs, vs = vsPut S.vs n := ⟨_, rfl⟩
  have hcd : cd (vsPut S.vs n) n = 2 * pl16 vs V + bl := by unfold cd; rw [hvs, hV, hbl]
  have hlk := (h.num h2).look (v := V) (by omega)
  have hc0 : w.cell? ⟨M.K, 0, none⟩ = some (.map (some M.bN)) := h.cell h1 0
  have HCD := Lib.hid hcd
  have hno : ∀ t, t = Tg.num → ¬ noTg (orT ex .num) .num .top → ¬ ex .top := fun _ _ _ => h1
  by_cases hin : V ∈ S.vs
  · have hput : vs = S.vs := by rw [hvs]; unfold vsPut; rw [if_pos (by rw [← hV]; exact hin)]
    have hpl : pl16 vs V ≤ 1000000 := by
      rw [hput]
      unfold pl16
      rw [if_pos hin]
      have := List.idxOf_lt_length_of_mem hin
      omega
    rw [← hput, decide_eq_true (by rw [hput]; exact hin)] at hlk
    have HR := Lib.hid (show KS w n0 M { S with vs := vsPut S.vs n } ex ∧ w.grownBy w (some M.bN) from ⟨by rw [← hvs, hput]; exact HK.out, World.grownBy.refl _ _⟩)
    generalize pl16 vs V = pp at *
    have hor : bits .or .i64 (2 * (pp : Int)) (bl : Int) = ((2 * pp + bl : Nat) : Int) := or16 hpl hb2
    have hsh : IntKind.i64.wrap ((pp : Int) * 2) = 2 * (pp : Int) := by rw [IntWalk.i64_in _ ⟨by omega, by omega⟩]; omega
    clear h hcd hvs hput
    by_cases hneg : n < 0
    · have hw1 : IntKind.u64.wrap n = n + 18446744073709551616 := by rw [hub]; omega
      have hw2 : IntKind.u64.wrap (-(n + 18446744073709551616)) = (V : Int) := by rw [hub2, hV]; omega
      have hb1 : bl = 1 := by rw [hbl, if_pos hneg]
      subst hb1
      clear hub hub2 hV hbl hin
      go_enter Try.func29, Try.ntmps29
      go_wp2
      go_ret
      exact ⟨by rw [HCD.out]; exact congrArg (fun z => Ending.returned (.int .i64 z)) hor, HR.out⟩
    · have hw1 : IntKind.u64.wrap n = (V : Int) := by rw [hub, hV]; omega
      have hb1 : bl = 0 := by rw [hbl, if_neg hneg]
      subst hb1
      clear hub hub2 hV hbl hin
      go_enter Try.func29, Try.ntmps29
      go_wp2
      go_ret
      exact ⟨by rw [HCD.out]; exact congrArg (fun z => Ending.returned (.int .i64 z)) hor, HR.out⟩
  · have hput : vs = S.vs ++ [V] := by rw [hvs]; unfold vsPut; rw [if_neg (by rw [← hV]; exact hin), ← hV]
    have hp0 : pl16 S.vs V = 0 := by unfold pl16; rw [if_neg hin]
    have hpl : pl16 vs V = S.vs.length := by
      rw [hput]
      unfold pl16
      rw [if_pos (by simp), List.idxOf_append, if_neg hin]
      simp
    rw [hpl] at HCD
    rw [hp0, decide_eq_false hin] at hlk
    obtain ⟨D, hD1, hD2, hD3⟩ := h.num h2
    obtain ⟨w2, hu, hs2, hg2⟩ := (h.num h2).push (v := V) (by omega) (by omega) hin
    have hk2 := h.keep (ex' := orT ex .num) hg2 (fun t _ hx => hx.elim .inl (fun ⟨b, hb, ht⟩ => .inr (by rw [← ht, ← Option.some.inj hb, h.tN])))
    have HR := Lib.hid (show KS w2 n0 M { S with vs := vsPut S.vs n } ex ∧ w.grownBy w2 (some M.bN) from ⟨by
      rw [← hvs, hput]
      exact (hk2.fillNum (by simp) hs2).less (fun t ht => ht.1.elim id (fun e => absurd e ht.2)), hg2⟩)
    have hpp : S.vs.length ≤ 1000000 := by omega
    have hor : bits .or .i64 (2 * (S.vs.length : Int)) (bl : Int) = ((2 * S.vs.length + bl : Nat) : Int) := or16 hpp hb2
    have hsh : IntKind.i64.wrap ((S.vs.length : Int) * 2) = 2 * (S.vs.length : Int) := by rw [IntWalk.i64_in _ ⟨by omega, by omega⟩]; omega
    clear h hcd hvs hput hs2 hg2 hk2 hD3
    by_cases hneg : n < 0
    · have hw1 : IntKind.u64.wrap n = n + 18446744073709551616 := by rw [hub]; omega
      have hw2 : IntKind.u64.wrap (-(n + 18446744073709551616)) = (V : Int) := by rw [hub2, hV]; omega
      have hb1 : bl = 1 := by rw [hbl, if_pos hneg]
      subst hb1
      clear hub hub2 hV hbl hin
      go_enter Try.func29, Try.ntmps29
      go_wp2_with (at_len; refine wpList_len_own _ rfl _ 48 rfl 59 3 Try.underlying48 _ M.bN S.vs.length D rfl hD1 ?_; rw [hD2])
      go_ret
      exact ⟨by rw [HCD.out]; exact congrArg (fun z => Ending.returned (.int .i64 z)) hor, HR.out⟩
    · have hw1 : IntKind.u64.wrap n = (V : Int) := by rw [hub, hV]; omega
      have hb1 : bl = 0 := by rw [hbl, if_neg hneg]
      subst hb1
      clear hub hub2 hV hbl hin
      go_enter Try.func29, Try.ntmps29
      go_wp2_with (at_len; refine wpList_len_own _ rfl _ 48 rfl 59 3 Try.underlying48 _ M.bN S.vs.length D rfl hD1 ?_; rw [hD2])
      go_ret
      exact ⟨by rw [HCD.out]; exact congrArg (fun z => Ending.returned (.int .i64 z)) hor, HR.out⟩
end Go.Proofs.Ytmiiclhhenepiaa
