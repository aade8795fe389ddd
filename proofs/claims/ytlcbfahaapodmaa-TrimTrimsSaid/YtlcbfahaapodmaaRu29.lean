/-
  Layer 29: run, the walk. Own work.
-/
import Derived.Test.YtlcbfahaapodmaaRn29
import Derived.Test.YtlcbfahaapodmaaNx29
namespace Go.Proofs.Ytlcbfahaapodmaa
set_option linter.unusedVariables false
set_option linter.unusedSimpArgs false
open Go.RowKit

theorem try_twice {p : Value} {w : World} {P : Bool → World → Prop} (h : Calls Try.prog 23 #[p] w fun e w' => ∃ b, e = .returned (.bool b) ∧ P b w') :
    Calls Try.prog 29 #[.func (.func 23) #[p] #[]] w fun e w' => ∃ b, e = .returned (.bool b) ∧ P b w' := by
  have H := Lib.hid h
  clear h
  go_enter Try.func29, Try.ntmps29
  go_wp2_with fail
  refine H.out.mono ?_
  rintro e w' ⟨b, rfl, hp⟩
  have HP := Lib.hid hp
  clear hp
  go_wp2
  go_ret
  exact ⟨b, rfl, HP.out⟩
theorem try_both {p : Value} {w : World} {P : Bool → World → Prop} (h : Calls Try.prog 24 #[p] w fun e w' => ∃ b, e = .returned (.bool b) ∧ P b w') :
    Calls Try.prog 29 #[.func (.func 24) #[p] #[]] w fun e w' => ∃ b, e = .returned (.bool b) ∧ P b w' := by
  have H := Lib.hid h
  clear h
  go_enter Try.func29, Try.ntmps29
  go_wp2_with fail
  refine H.out.mono ?_
  rintro e w' ⟨b, rfl, hp⟩
  have HP := Lib.hid hp
  clear hp
  go_wp2
  go_ret
  exact ⟨b, rfl, HP.out⟩
theorem try_empty {p : Value} {w : World} {P : Bool → World → Prop} (h : Calls Try.prog 25 #[p] w fun e w' => ∃ b, e = .returned (.bool b) ∧ P b w') :
    Calls Try.prog 29 #[.func (.func 25) #[p] #[]] w fun e w' => ∃ b, e = .returned (.bool b) ∧ P b w' := by
  have H := Lib.hid h
  clear h
  go_enter Try.func29, Try.ntmps29
  go_wp2_with fail
  refine H.out.mono ?_
  rintro e w' ⟨b, rfl, hp⟩
  have HP := Lib.hid hp
  clear hp
  go_wp2
  go_ret
  exact ⟨b, rfl, HP.out⟩
theorem try_single {p : Value} {w : World} {P : Bool → World → Prop} (h : Calls Try.prog 26 #[p] w fun e w' => ∃ b, e = .returned (.bool b) ∧ P b w') :
    Calls Try.prog 29 #[.func (.func 26) #[p] #[]] w fun e w' => ∃ b, e = .returned (.bool b) ∧ P b w' := by
  have H := Lib.hid h
  clear h
  go_enter Try.func29, Try.ntmps29
  go_wp2_with fail
  refine H.out.mono ?_
  rintro e w' ⟨b, rfl, hp⟩
  have HP := Lib.hid hp
  clear hp
  go_wp2
  go_ret
  exact ⟨b, rfl, HP.out⟩
theorem try_lone {p : Value} {w : World} {P : Bool → World → Prop} (h : Calls Try.prog 27 #[p] w fun e w' => ∃ b, e = .returned (.bool b) ∧ P b w') :
    Calls Try.prog 29 #[.func (.func 27) #[p] #[]] w fun e w' => ∃ b, e = .returned (.bool b) ∧ P b w' := by
  have H := Lib.hid h
  clear h
  go_enter Try.func29, Try.ntmps29
  go_wp2_with fail
  refine H.out.mono ?_
  rintro e w' ⟨b, rfl, hp⟩
  have HP := Lib.hid hp
  clear hp
  go_wp2
  go_ret
  exact ⟨b, rfl, HP.out⟩
theorem try_covered {p : Value} {w : World} {P : Bool → World → Prop} (h : Calls Try.prog 28 #[p] w fun e w' => ∃ b, e = .returned (.bool b) ∧ P b w') :
    Calls Try.prog 29 #[.func (.func 28) #[p] #[]] w fun e w' => ∃ b, e = .returned (.bool b) ∧ P b w' := by
  have H := Lib.hid h
  clear h
  go_enter Try.func29, Try.ntmps29
  go_wp2_with fail
  refine H.out.mono ?_
  rintro e w' ⟨b, rfl, hp⟩
  have HP := Lib.hid hp
  clear hp
  go_wp2
  go_ret
  exact ⟨b, rfl, HP.out⟩
section
variable {w : World} {n0 : Nat} {M : Wm} {S : Ws}
/-- how many of the six methods have found nothing -/
def Stg (i : Nat) (S0 S : Ws) : Prop := S.vars = S0.vars ∧ absW S = absW S0 ∧ S.en = false ∧ (PB S ∨ (i ≤ 1 ∧ BN S ∧ (i = 1 → ∀ c ∈ S.L, c.Nodup))) ∧ (2 < i → firstW S 0 = none) ∧ (3 < i → firstW S 1 = none) ∧ (4 < i → loneW S = none) ∧ (5 < i → stepM S0.vars (absW S0) = none)
def frT : Tw → Prop := fun t => t ≠ .free
/-- what a method leaves -/
def OutP (n0 : Nat) (M : Wm) (S0 : Ws) (i : Nat) (w : World) (b : Bool) (w' : World) : Prop := ∃ M' S', KW w' n0 M' S' noW ∧ FrW M M' frT w w' ∧ S'.vars = S0.vars ∧ (b = true → stepM S0.vars (absW S0) = some (absW S') ∧ (S'.en = true ∨ S'.en = false ∧ (BN S' ∨ PB S'))) ∧ (b = false → Stg (i + 1) S0 S')
theorem Stg.pb {i : Nat} {S0 S : Ws} (h : Stg i S0 S) (hi : 2 ≤ i) : PB S := by
  rcases h.2.2.2.1 with h | ⟨h, _⟩
  · exact h
  · omega
variable {S0 : Ws}
theorem m_twice (h : KW w n0 M S noW) (g : Stg 0 S0 S) : Calls Try.prog 23 #[.pointer (some ⟨M.K, 0, none⟩)] w fun e w' => ∃ b, e = .returned (.bool b) ∧ OutP n0 M S0 0 w b w' := by
  obtain ⟨g1, g2, g3, g4, _⟩ := g
  have hsz : Sz S := by
    rcases g4 with g4 | ⟨_, g4, _⟩
    · exact g4.gd.sz
    · exact g4.sz
  refine (twice29_any h hsz).mono ?_
  rintro e w' ⟨rfl, M', hk, hf⟩
  have hfr : FrW M M' frT w w' := hf.mono (fun t ht => by rcases ht with rfl | ⟨i, rfl⟩ <;> simp [frT])
  rcases g4 with g4 | ⟨_, g4, _⟩
  · have eb : (!S.pl && S.L.any fun c => !decide c.Nodup) = false := by rw [g4.pl]; rfl
    rw [if_pos g4.pl] at hk
    rw [eb]
    exact ⟨_, rfl, M', S, hk, hfr, g1, fun h => (by cases h), fun _ => ⟨g1, g2, g3, .inl g4, fun h => by omega, fun h => by omega, fun h => by omega, fun h => by omega⟩⟩
  · have eb : (!S.pl && S.L.any fun c => !decide c.Nodup) = (S.L.any fun c => !decide c.Nodup) := by rw [g4.pl]; rfl
    rw [if_neg (by rw [g4.pl]; simp)] at hk
    rw [eb]
    refine ⟨_, rfl, M', _, hk, hfr, g1, fun h => ?_, fun h => ?_⟩
    · have h2 := (g4.step1).1 h
      rw [g1, g2] at h2
      exact ⟨h2, .inr ⟨g3, .inl g4.twice⟩⟩
    · obtain ⟨h2, h3⟩ := (g4.step1).2 h
      rw [h2]
      exact ⟨g1, g2, g3, .inr ⟨by omega, g4, fun _ => h3⟩, fun h => by omega, fun h => by omega, fun h => by omega, fun h => by omega⟩
theorem m_both (h : KW w n0 M S noW) (g : Stg 1 S0 S) : Calls Try.prog 24 #[.pointer (some ⟨M.K, 0, none⟩)] w fun e w' => ∃ b, e = .returned (.bool b) ∧ OutP n0 M S0 1 w b w' := by
  obtain ⟨g1, g2, g3, g4, _⟩ := g
  have hsz : Sz S := by
    rcases g4 with g4 | ⟨_, g4, _⟩
    · exact g4.gd.sz
    · exact g4.sz
  refine (both29_any h hsz (fun hp => ?_)).mono ?_
  · rcases g4 with g4 | ⟨_, g4, _⟩
    · rw [g4.pl] at hp; cases hp
    · exact ⟨g4.G, fun a => by rw [g4.cn a, g4.st a]; simp⟩
  rintro e w' ⟨rfl, M', hk, hf⟩
  have hfr : FrW M M' frT w w' := hf.mono (fun t ht => by rcases ht with rfl | rfl | rfl | rfl | ⟨i, rfl⟩ <;> simp [frT])
  refine ⟨_, rfl, M', _, hk, hfr, ?_⟩
  rcases g4 with g4 | ⟨_, g4, gn⟩
  · rw [g4.pl]
    exact ⟨g1, fun h => by simp at h, fun _ => ⟨g1, g2, g3, .inl g4, fun h => by omega, fun h => by omega, fun h => by omega, fun h => by omega⟩⟩
  · rw [g4.pl]
    have hs := bothTo_same S S.L.length
    have hv : (bothTo S S.L.length).vars = S0.vars := by rw [hs]; exact g1
    have he : (bothTo S S.L.length).en = false := by rw [hs]; exact g3
    obtain ⟨p1, p2, p3⟩ := g4.step2 (gn rfl)
    refine ⟨hv, fun h => ?_, fun h => ?_⟩
    · have h1 : S.L.any taut = true := by simpa using h
      have h2 := p2 h1
      rw [g1, g2] at h2
      exact ⟨h2, .inr ⟨he, .inr p1⟩⟩
    · have h1 : S.L.any taut = false := by simpa using h
      exact ⟨hv, (p3 h1).trans g2, he, .inl p1, fun h => by omega, fun h => by omega, fun h => by omega, fun h => by omega⟩
theorem m_empty (h : KW w n0 M S noW) (g : Stg 2 S0 S) : Calls Try.prog 25 #[.pointer (some ⟨M.K, 0, none⟩)] w fun e w' => ∃ b, e = .returned (.bool b) ∧ OutP n0 M S0 2 w b w' := by
  have gp := g.pb (Nat.le_refl _)
  obtain ⟨g1, g2, g3, _⟩ := g
  refine (empty29_any h gp.gd).mono ?_
  rintro e w' ⟨rfl, hk, hf⟩
  have hfr : FrW M M frT w w' := hf.mono (fun t ht => by rcases ht with rfl | rfl | rfl | rfl <;> simp [frT])
  refine ⟨_, rfl, M, _, hk, hfr, g1, fun h => ?_, fun h => ?_⟩
  · have h2 := abs_empty gp.gd gp.pln g3 h
    rw [g1, g2] at h2
    exact ⟨h2, .inl h⟩
  · have h1 : firstW S 0 = none := by simpa using h
    rw [empty_same g3 h1]
    exact ⟨g1, g2, g3, .inl gp, fun _ => h1, fun h => by omega, fun h => by omega, fun h => by omega⟩
theorem m_single (h : KW w n0 M S noW) (g : Stg 3 S0 S) : Calls Try.prog 26 #[.pointer (some ⟨M.K, 0, none⟩)] w fun e w' => ∃ b, e = .returned (.bool b) ∧ OutP n0 M S0 3 w b w' := by
  have gp := g.pb (by omega)
  obtain ⟨g1, g2, g3, _, g5, _⟩ := g
  have hL6 : S.L.length ≤ 1000000 := Nat.le_trans (size_len _) gp.gd.size
  refine (single29_any h gp.gd gp.pl gp.stI.lt (fun a => Nat.le_trans (gp.stI.stLen a) hL6) (by have := gp.fx; omega) (by have := gp.fx; have := gp.ns; omega)).mono ?_
  rintro e w' ⟨rfl, M', hk, hf⟩
  have hfr : FrW M M' frT w w' := hf.mono (fun t ht => by rcases ht with rfl | rfl | rfl | rfl | rfl <;> simp [frT])
  cases hq : firstW S 1 with
  | none =>
    have e1 : singleAll S = S := by unfold singleAll; rw [hq]
    rw [e1] at hk
    exact ⟨_, rfl, M', S, hk, hfr, g1, fun h => by simp at h, fun _ => ⟨g1, g2, g3, .inl gp, fun _ => g5 (by omega), fun _ => hq, fun h => by omega, fun h => by omega⟩⟩
  | some i =>
    obtain ⟨p1, p2, p3⟩ := gp.step4 g3 (g5 (by omega)) hq
    rw [g1, g2] at p3
    have e1 : (singleAll S).vars = S.vars := by
      unfold singleAll
      rw [hq]
      exact (singleS_same S _ ((gp.stI.up _).imp (fun h => Nat.ne_of_lt h))).1
    exact ⟨_, rfl, M', _, hk, hfr, e1.trans g1, fun _ => ⟨p3, .inr ⟨p2, .inr p1⟩⟩, fun h => by simp at h⟩
theorem m_lone (h : KW w n0 M S noW) (g : Stg 4 S0 S) : Calls Try.prog 27 #[.pointer (some ⟨M.K, 0, none⟩)] w fun e w' => ∃ b, e = .returned (.bool b) ∧ OutP n0 M S0 4 w b w' := by
  have gp := g.pb (by omega)
  obtain ⟨g1, g2, g3, _, g5, g6, _⟩ := g
  have hL6 : S.L.length ≤ 1000000 := Nat.le_trans (size_len _) gp.gd.size
  refine (lone29_any h gp.gd gp.stI.lt (fun a => Nat.le_trans (gp.stI.stLen a) hL6) (by have := gp.fx; omega)).mono ?_
  rintro e w' ⟨rfl, M', hk, hf⟩
  have hfr : FrW M M' frT w w' := hf.mono (fun t ht => by rcases ht with rfl | rfl | rfl | rfl <;> simp [frT])
  cases hq : loneW S with
  | none =>
    have e1 : loneS S = S := by unfold loneS; rw [hq]
    rw [e1] at hk
    exact ⟨_, rfl, M', S, hk, hfr, g1, fun h => by simp at h, fun _ => ⟨g1, g2, g3, .inl gp, fun _ => g5 (by omega), fun _ => g6 (by omega), fun _ => hq, fun h => by omega⟩⟩
  | some n =>
    obtain ⟨p1, p2, p3⟩ := gp.step5 g3 (g5 (by omega)) (g6 (by omega)) hq
    rw [g1, g2] at p3
    have e1 : (loneS S).vars = S.vars := by
      unfold loneS
      rw [hq]
      exact (fixS_same S n).2.1
    exact ⟨_, rfl, M', _, hk, hfr, e1.trans g1, fun _ => ⟨p3, .inr ⟨p2, .inr p1⟩⟩, fun h => by simp at h⟩
theorem m_covered (h : KW w n0 M S noW) (g : Stg 5 S0 S) : Calls Try.prog 28 #[.pointer (some ⟨M.K, 0, none⟩)] w fun e w' => ∃ b, e = .returned (.bool b) ∧ OutP n0 M S0 5 w b w' := by
  have gp := g.pb (by omega)
  obtain ⟨g1, g2, g3, _, g5, g6, g7, _⟩ := g
  refine (covered29_any h gp.gd gp.stI gp.pln (g5 (by omega)) (fun hb => (gp.bg1 hb).1) gp.bg0).mono ?_
  rintro e w' ⟨b, M', S', rfl, hk, hf, hc⟩
  have hfr : FrW M M' frT w w' := hf.mono (fun t ht => by rcases ht with rfl | rfl | rfl | rfl | rfl <;> simp [frT])
  cases b with
  | true =>
    obtain ⟨p1, p2, p3⟩ := gp.step6 g3 (g5 (by omega)) (g6 (by omega)) (g7 (by omega)) hc
    rw [g1, g2] at p3
    have e1 : S'.vars = S.vars := by
      obtain ⟨S1, i, k, hsc, _, rfl, _⟩ := hc
      rw [(dropS_same S1 k).2.1, hsc.vars]
    exact ⟨_, rfl, M', S', hk, hfr, e1.trans g1, fun _ => ⟨p3, .inr ⟨p2, .inr p1⟩⟩, fun h => by cases h⟩
  | false =>
    have hc2 := hc
    obtain ⟨p1, p2, p3, p4⟩ := gp.done g3 (g5 (by omega)) (g6 (by omega)) (g7 (by omega)) hc
    have e1 : S'.vars = S.vars := hc2.1.vars
    rw [g1, g2] at p4
    have h0 : firstW S' 0 = none := firstW_less hc2.1.L (fun i hi => by rw [hc2.1.G] at hi; exact hi) (g5 (by omega))
    have h1 : firstW S' 1 = none := firstW_less hc2.1.L (fun i hi => by rw [hc2.1.G] at hi; exact hi) (g6 (by omega))
    have h2 : loneW S' = none := by
      have h5 := g7 (by omega)
      unfold loneW at h5 ⊢
      rw [hc2.1.cn, hc2.1.vars]
      exact h5
    exact ⟨_, rfl, M', S', hk, hfr, e1.trans g1, fun h => (by cases h), fun _ => ⟨e1.trans g1, p3.trans g2, p2, .inl p1, fun _ => h0, fun _ => h1, fun _ => h2, fun _ => p4⟩⟩
set_option maxHeartbeats 1000000 in
theorem index29f_any {B : Nat} (h : KW w n0 M S noW) (g : Stg 0 S0 S) (hbt : M.tag B = .free) (hbs : B < w.heap.size)
    (hB0 : w.cell? ⟨B, 0, none⟩ = some (.func (.func 23) #[.pointer (some ⟨M.K, 0, none⟩)] #[]))
    (hB1 : w.cell? ⟨B, 1, none⟩ = some (.func (.func 24) #[.pointer (some ⟨M.K, 0, none⟩)] #[]))
    (hB2 : w.cell? ⟨B, 2, none⟩ = some (.func (.func 25) #[.pointer (some ⟨M.K, 0, none⟩)] #[]))
    (hB3 : w.cell? ⟨B, 3, none⟩ = some (.func (.func 26) #[.pointer (some ⟨M.K, 0, none⟩)] #[]))
    (hB4 : w.cell? ⟨B, 4, none⟩ = some (.func (.func 27) #[.pointer (some ⟨M.K, 0, none⟩)] #[]))
    (hB5 : w.cell? ⟨B, 5, none⟩ = some (.func (.func 28) #[.pointer (some ⟨M.K, 0, none⟩)] #[]))
    : Calls Try.prog 43 #[.slice (some ⟨B, 0, none⟩) 6 6, .func (.func 29) #[] #[]] w fun e w' => ∃ r : Int, ∃ M' S', e = .returned (.int .i64 r) ∧ KW w' n0 M' S' noW ∧ FrW M M' frT w w' ∧ S'.vars = S0.vars ∧
      ((0 ≤ r ∧ stepM S0.vars (absW S0) = some (absW S') ∧ (S'.en = true ∨ S'.en = false ∧ (BN S' ∨ PB S'))) ∨ (r = -1 ∧ Stg 6 S0 S')) := by
  have HK := Lib.hid h
  have HG := Lib.hid g
  clear h g
  go_enter Try.func43, Try.ntmps43
  go_wp2_with fail
  go_loopw [5, 8] (fun z q wr => ∃ i : Nat, ∃ M' S', i ≤ 6 ∧ q = .int .i64 i ∧ KW wr n0 M' S' noW ∧ FrW M M' frT w wr ∧ Stg i S0 S') (fun _ q _ => 6 - (intOf q).toNat)
  case atStart => exact ⟨0, M, S, by omega, rfl, HK.out, FrW.refl _ _ _, HG.out⟩
  case round =>
    obtain ⟨i, M', S', hi, rfl, hkk, hff, hst⟩ := hrel
    have hMK : M'.K = M.K := hff.K
    have HKK := Lib.hid hkk
    have HFF := Lib.hid hff
    have HST := Lib.hid hst
    have HCB := Lib.hid (show ∀ a : Addr, a.block = B → wr.cell? a = w.cell? a from fun a ha => World.cell?_of_block (by rw [ha]; exact hff.block B hbs (by rw [hbt]; simp [frT])))
    by_cases h6 : i = 6
    · subst h6
      clear hkk hff hst
      go_wp2
      go_ret
      exact ⟨-1, M', S', rfl, HKK.out, HFF.out, HST.out.1, .inr ⟨rfl, HST.out⟩⟩
    · rcases (show i = 0 ∨ i = 1 ∨ i = 2 ∨ i = 3 ∨ i = 4 ∨ i = 5 from by omega) with rfl | rfl | rfl | rfl | rfl | rfl
      · have hq : wr.cell? ⟨B, 0, none⟩ = some (.func (.func 23) #[.pointer (some ⟨M.K, 0, none⟩)] #[]) := (HCB.out ⟨B, 0, none⟩ rfl).trans hB0
        have ht0 := try_twice (P := OutP n0 M' S0 0 wr) (m_twice hkk hst)
        rw [hMK] at ht0
        have HT := Lib.hid ht0
        clear hkk hff hst ht0
        go_wp2_with fail
        refine HT.out.mono ?_
        rintro e w' ⟨b, rfl, M3, S3, k1, k2, k3, k4, k5⟩
        have HK1 := Lib.hid k1
        have HK2 := Lib.hid (HFF.out.trans k2)
        have HK4 := Lib.hid k4
        have HK5 := Lib.hid k5
        clear k1 k2 k4 k5
        cases b with
        | true =>
          go_wp2
          go_ret
          exact ⟨_, M3, S3, rfl, HK1.out, HK2.out, k3, .inl ⟨by simp, HK4.out trivial⟩⟩
        | false =>
          go_wp2_with fail
          go_round
          case rel => exact ⟨1, M3, S3, by omega, by go_num, HK1.out, HK2.out, HK5.out trivial⟩
          case measure => simp [intOf]
      · have hq : wr.cell? ⟨B, 1, none⟩ = some (.func (.func 24) #[.pointer (some ⟨M.K, 0, none⟩)] #[]) := (HCB.out ⟨B, 1, none⟩ rfl).trans hB1
        have ht0 := try_both (P := OutP n0 M' S0 1 wr) (m_both hkk hst)
        rw [hMK] at ht0
        have HT := Lib.hid ht0
        clear hkk hff hst ht0
        go_wp2_with fail
        refine HT.out.mono ?_
        rintro e w' ⟨b, rfl, M3, S3, k1, k2, k3, k4, k5⟩
        have HK1 := Lib.hid k1
        have HK2 := Lib.hid (HFF.out.trans k2)
        have HK4 := Lib.hid k4
        have HK5 := Lib.hid k5
        clear k1 k2 k4 k5
        cases b with
        | true =>
          go_wp2
          go_ret
          exact ⟨_, M3, S3, rfl, HK1.out, HK2.out, k3, .inl ⟨by simp, HK4.out trivial⟩⟩
        | false =>
          go_wp2_with fail
          go_round
          case rel => exact ⟨2, M3, S3, by omega, by go_num, HK1.out, HK2.out, HK5.out trivial⟩
          case measure => simp [intOf]
      · have hq : wr.cell? ⟨B, 2, none⟩ = some (.func (.func 25) #[.pointer (some ⟨M.K, 0, none⟩)] #[]) := (HCB.out ⟨B, 2, none⟩ rfl).trans hB2
        have ht0 := try_empty (P := OutP n0 M' S0 2 wr) (m_empty hkk hst)
        rw [hMK] at ht0
        have HT := Lib.hid ht0
        clear hkk hff hst ht0
        go_wp2_with fail
        refine HT.out.mono ?_
        rintro e w' ⟨b, rfl, M3, S3, k1, k2, k3, k4, k5⟩
        have HK1 := Lib.hid k1
        have HK2 := Lib.hid (HFF.out.trans k2)
        have HK4 := Lib.hid k4
        have HK5 := Lib.hid k5
        clear k1 k2 k4 k5
        cases b with
        | true =>
          go_wp2
          go_ret
          exact ⟨_, M3, S3, rfl, HK1.out, HK2.out, k3, .inl ⟨by simp, HK4.out trivial⟩⟩
        | false =>
          go_wp2_with fail
          go_round
          case rel => exact ⟨3, M3, S3, by omega, by go_num, HK1.out, HK2.out, HK5.out trivial⟩
          case measure => simp [intOf]
      · have hq : wr.cell? ⟨B, 3, none⟩ = some (.func (.func 26) #[.pointer (some ⟨M.K, 0, none⟩)] #[]) := (HCB.out ⟨B, 3, none⟩ rfl).trans hB3
        have ht0 := try_single (P := OutP n0 M' S0 3 wr) (m_single hkk hst)
        rw [hMK] at ht0
        have HT := Lib.hid ht0
        clear hkk hff hst ht0
        go_wp2_with fail
        refine HT.out.mono ?_
        rintro e w' ⟨b, rfl, M3, S3, k1, k2, k3, k4, k5⟩
        have HK1 := Lib.hid k1
        have HK2 := Lib.hid (HFF.out.trans k2)
        have HK4 := Lib.hid k4
        have HK5 := Lib.hid k5
        clear k1 k2 k4 k5
        cases b with
        | true =>
          go_wp2
          go_ret
          exact ⟨_, M3, S3, rfl, HK1.out, HK2.out, k3, .inl ⟨by simp, HK4.out trivial⟩⟩
        | false =>
          go_wp2_with fail
          go_round
          case rel => exact ⟨4, M3, S3, by omega, by go_num, HK1.out, HK2.out, HK5.out trivial⟩
          case measure => simp [intOf]
      · have hq : wr.cell? ⟨B, 4, none⟩ = some (.func (.func 27) #[.pointer (some ⟨M.K, 0, none⟩)] #[]) := (HCB.out ⟨B, 4, none⟩ rfl).trans hB4
        have ht0 := try_lone (P := OutP n0 M' S0 4 wr) (m_lone hkk hst)
        rw [hMK] at ht0
        have HT := Lib.hid ht0
        clear hkk hff hst ht0
        go_wp2_with fail
        refine HT.out.mono ?_
        rintro e w' ⟨b, rfl, M3, S3, k1, k2, k3, k4, k5⟩
        have HK1 := Lib.hid k1
        have HK2 := Lib.hid (HFF.out.trans k2)
        have HK4 := Lib.hid k4
        have HK5 := Lib.hid k5
        clear k1 k2 k4 k5
        cases b with
        | true =>
          go_wp2
          go_ret
          exact ⟨_, M3, S3, rfl, HK1.out, HK2.out, k3, .inl ⟨by simp, HK4.out trivial⟩⟩
        | false =>
          go_wp2_with fail
          go_round
          case rel => exact ⟨5, M3, S3, by omega, by go_num, HK1.out, HK2.out, HK5.out trivial⟩
          case measure => simp [intOf]
      · have hq : wr.cell? ⟨B, 5, none⟩ = some (.func (.func 28) #[.pointer (some ⟨M.K, 0, none⟩)] #[]) := (HCB.out ⟨B, 5, none⟩ rfl).trans hB5
        have ht0 := try_covered (P := OutP n0 M' S0 5 wr) (m_covered hkk hst)
        rw [hMK] at ht0
        have HT := Lib.hid ht0
        clear hkk hff hst ht0
        go_wp2_with fail
        refine HT.out.mono ?_
        rintro e w' ⟨b, rfl, M3, S3, k1, k2, k3, k4, k5⟩
        have HK1 := Lib.hid k1
        have HK2 := Lib.hid (HFF.out.trans k2)
        have HK4 := Lib.hid k4
        have HK5 := Lib.hid k5
        clear k1 k2 k4 k5
        cases b with
        | true =>
          go_wp2
          go_ret
          exact ⟨_, M3, S3, rfl, HK1.out, HK2.out, k3, .inl ⟨by simp, HK4.out trivial⟩⟩
        | false =>
          go_wp2_with fail
          go_round
          case rel => exact ⟨6, M3, S3, by omega, by go_num, HK1.out, HK2.out, HK5.out trivial⟩
          case measure => simp [intOf]
theorem contains29_any {B : Nat} (h : KW w n0 M S noW) (g : Stg 0 S0 S) (hbt : M.tag B = .free) (hbs : B < w.heap.size)
    (hB0 : w.cell? ⟨B, 0, none⟩ = some (.func (.func 23) #[.pointer (some ⟨M.K, 0, none⟩)] #[]))
    (hB1 : w.cell? ⟨B, 1, none⟩ = some (.func (.func 24) #[.pointer (some ⟨M.K, 0, none⟩)] #[]))
    (hB2 : w.cell? ⟨B, 2, none⟩ = some (.func (.func 25) #[.pointer (some ⟨M.K, 0, none⟩)] #[]))
    (hB3 : w.cell? ⟨B, 3, none⟩ = some (.func (.func 26) #[.pointer (some ⟨M.K, 0, none⟩)] #[]))
    (hB4 : w.cell? ⟨B, 4, none⟩ = some (.func (.func 27) #[.pointer (some ⟨M.K, 0, none⟩)] #[]))
    (hB5 : w.cell? ⟨B, 5, none⟩ = some (.func (.func 28) #[.pointer (some ⟨M.K, 0, none⟩)] #[]))
    : Calls Try.prog 30 #[.slice (some ⟨B, 0, none⟩) 6 6, .func (.func 29) #[] #[]] w fun e w' => ∃ b : Bool, ∃ M' S', e = .returned (.bool b) ∧ KW w' n0 M' S' noW ∧ FrW M M' frT w w' ∧ S'.vars = S0.vars ∧
      ((b = true ∧ stepM S0.vars (absW S0) = some (absW S') ∧ (S'.en = true ∨ S'.en = false ∧ (BN S' ∨ PB S'))) ∨ (b = false ∧ Stg 6 S0 S')) := by
  have H := Lib.hid (index29f_any h g hbt hbs hB0 hB1 hB2 hB3 hB4 hB5)
  clear h g hB0 hB1 hB2 hB3 hB4 hB5
  go_enter Try.func30, Try.ntmps30
  go_wp2_with fail
  refine H.out.mono ?_
  rintro e w' ⟨r, M', S', rfl, k1, k2, k3, k4⟩
  have HK1 := Lib.hid k1
  have HK2 := Lib.hid k2
  rcases k4 with ⟨k4, k5⟩ | ⟨rfl, k5⟩
  · have HK5 := Lib.hid k5
    clear k1 k2 k5
    go_wp2
    go_ret
    exact ⟨true, M', S', by simp [k4], HK1.out, HK2.out, k3, .inl ⟨rfl, HK5.out⟩⟩
  · have HK5 := Lib.hid k5
    clear k1 k2 k5
    go_wp2
    go_ret
    exact ⟨false, M', S', rfl, HK1.out, HK2.out, k3, .inr ⟨rfl, HK5.out⟩⟩
end
end Go.Proofs.Ytlcbfahaapodmaa
