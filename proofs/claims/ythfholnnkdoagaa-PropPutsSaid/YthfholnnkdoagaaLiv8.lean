/-
  Layer 8: the examples. Own work.
-/
import Derived.Test.YthfholnnkdoagaaExp8
namespace Go.Proofs.Ythfholnnkdoagaa
set_option linter.unusedVariables false
set_option linter.unusedSimpArgs false
open Go.RowKit

theorem rd_two {w : World} {b : Nat} {p q : Pp} (h : w.heap[b]? = some (.cells #[.string (str p.1), .string (str p.2), .string (str q.1), .string (str q.2)] 33 (0, 0))) : RdPs w (.slice (some ⟨b, 0, none⟩) 2 2) (prs [p, q]) := by
  refine .inr ⟨⟨b, 0, none⟩, 2, rfl, by simp [prs], by omega, fun i x hx => ?_⟩
  match i with
  | 0 =>
    simp only [prs, List.map_cons, List.getElem?_cons_zero, Option.some.injEq] at hx
    subst hx
    have e : (⟨b, 0, none⟩ : Addr).add (0 * 2) = ⟨b, 0, none⟩ := rfl
    rw [e]
    exact ⟨by rw [cell_of_row w b 0 _ _ (0, 0) h]; rfl, by rw [cell_of_row w b 1 _ _ (0, 0) h]; rfl⟩
  | 1 =>
    simp only [prs, List.map_cons, List.getElem?_cons_succ, List.getElem?_cons_zero, Option.some.injEq] at hx
    subst hx
    have e : (⟨b, 0, none⟩ : Addr).add (1 * 2) = ⟨b, 2, none⟩ := rfl
    rw [e]
    exact ⟨by rw [cell_of_row w b 2 _ _ (0, 0) h]; rfl, by rw [cell_of_row w b 3 _ _ (0, 0) h]; rfl⟩
  | i + 2 => simp [prs] at hx
theorem Kp.under {S : Tb} {X : Nat → Prop} {w w' : World} (h : Kp S X w w') (hB : S.B ≤ w.heap.size) : Below S.B w w' := ⟨h.os, h.tape, h.output, h.size, fun k hk => h.low k hk (Nat.lt_of_lt_of_le hk hB)⟩
theorem StV.st {S : Tb} {U D : List Pp} {vv : Value} {w : World} (h : StV S U D vv w) (hvv : vv = .slice none 0 0) {X : Nat → Prop} (hX : ∀ k, X k → k < S.B) : St S U D X w := by
  have ho := h.olds
  have hl := h.low
  exact ⟨vv, h, fun k hk => by
    have := hX k hk
    refine ⟨by omega, by omega, by omega, ?_⟩
    rw [hvv]
    simp [Value.ownBlock]⟩
def l8a : List Pp := [([97], [49]), ([98], [36, 123, 97, 125, 46, 50])]
def l8b : List Pp := [([97], [36, 123, 98, 125]), ([98], [36, 123, 97, 125])]
theorem l8a_ok : UOk l8a := ⟨by decide, by decide, by decide⟩
theorem l8b_ok : UOk l8b := ⟨by decide, by decide, by decide⟩
theorem exp8a : expandM8 l8a [120, 36, 123, 98, 125, 36, 123, 99, 125] [] = .ok [120, 49, 46, 50, 36, 123, 99, 125] [([97], [49]), ([98], [49, 46, 50])] := by kernel_rfl
theorem exp8b : expandM8 l8b [36, 123, 97, 125] [] = .bad 22 [97] [] := by kernel_rfl
set_option maxRecDepth 100000 in
set_option maxHeartbeats 4000000 in
theorem lives8 (m : Int) (w : World) (hm : w.cell? ⟨0, 0, none⟩ = some (.int .i64 m)) :
    Calls Try.prog 14 #[] w fun e w' => e = .returned (.bool true) ∧ Below w.heap.size w w' := by
  have hb0 : Below w.heap.size w (w.alloc (.cells #[.string ⟨#[97]⟩, .string ⟨#[49]⟩, .string ⟨#[98]⟩, .string ⟨#[36, 123, 97, 125, 46, 50]⟩] 33)) := (Below.refl w.heap.size w).alloc (Nat.le_refl _) _
  have hn0 := heap_alloc_new w (.cells #[.string ⟨#[97]⟩, .string ⟨#[49]⟩, .string ⟨#[98]⟩, .string ⟨#[36, 123, 97, 125, 46, 50]⟩] 33)
  have HM := Lib.hid hm
  have HNA := Lib.hid (New8_any l8a _ m _ (rd_two (p := ([97], [49])) (q := ([98], [36, 123, 97, 125, 46, 50])) hn0) (by decide) (by decide) ((hb0.cell (World.block_lt_of_cell? w _ hm)).trans hm))
  have HB0 := Lib.hid hb0
  clear hb0 hn0 hm
  go_enter Try.func14, Try.ntmps14
  go_wp2_with fail
  refine HNA.out.mono ?_
  rintro e w2 ⟨S, rfl, hst, hSB, hb2, hSm⟩
  have hfa : firsts [] l8a = l8a := by kernel_rfl
  rw [hfa] at hst
  have HST := Lib.hid hst
  have HB2 := Lib.hid (HB0.out.trans (hb2.mono HB0.out.size))
  have HSB := Lib.hid (show w.heap.size ≤ S.B from by rw [hSB]; exact HB0.out.size)
  have HEA := Lib.hid (Expand8_any S l8a l8a_ok (fun _ => False) [] w2 [120, 36, 123, 98, 125, 36, 123, 99, 125] (by decide) (Q8.nil _ _) (hst.st rfl (fun _ h => h.elim)))
  rw [exp8a] at HEA
  clear hst hb2 HNA HB0 hSm hSB hfa
  go_wp2_with fail
  refine HEA.out.mono ?_
  rintro e w3 ⟨rfl, hst3, hk3⟩
  have hex : expV (.ok [120, 49, 46, 50, 36, 123, 99, 125] [([97], [49]), ([98], [49, 46, 50])]) = .tuple #[.string ⟨#[120, 49, 46, 50, 36, 123, 99, 125]⟩, .int .i64 0, .string ⟨#[]⟩] := rfl
  rw [hex]
  have hst3' : St S l8a [([97], [49]), ([98], [49, 46, 50])] (fun _ => False) w3 := hst3
  have HST3 := Lib.hid hst3'
  have HB3 := Lib.hid (HB2.out.trans ((hk3.under (own8_base (HST.out.st (X := fun _ => False) rfl (fun _ h => h.elim)))).mono HSB.out))
  have hb0 : Below w3.heap.size w3 (w3.alloc (.cells #[.string ⟨#[97]⟩, .string ⟨#[36, 123, 98, 125]⟩, .string ⟨#[98]⟩, .string ⟨#[36, 123, 97, 125]⟩] 33)) := (Below.refl w3.heap.size w3).alloc (Nat.le_refl _) _
  have hn0 := heap_alloc_new w3 (.cells #[.string ⟨#[97]⟩, .string ⟨#[36, 123, 98, 125]⟩, .string ⟨#[98]⟩, .string ⟨#[36, 123, 97, 125]⟩] 33)
  have hm3 := (HB3.out.cell (World.block_lt_of_cell? w _ HM.out)).trans HM.out
  have HNB := Lib.hid (New8_any l8b _ m _ (rd_two (p := ([97], [36, 123, 98, 125])) (q := ([98], [36, 123, 97, 125])) hn0) (by decide) (by decide) ((hb0.cell (World.block_lt_of_cell? w3 _ hm3)).trans hm3))
  have HB0 := Lib.hid hb0
  clear hst3 hst3' hk3 hex HEA hb0 hn0 hm3
  go_wp2_with fail
  refine HNB.out.mono ?_
  rintro e w4 ⟨R, rfl, hst, hRB, hb4, hRm⟩
  have hfb : firsts [] l8b = l8b := by kernel_rfl
  rw [hfb] at hst
  have HST4 := Lib.hid hst
  have HB4 := Lib.hid (show Below w3.heap.size w3 w4 from HB0.out.trans (hb4.mono HB0.out.size))
  have HRB := Lib.hid (show w3.heap.size ≤ R.B from by rw [hRB]; exact HB0.out.size)
  have HEB := Lib.hid (Expand8_any R l8b l8b_ok (fun _ => False) [] w4 [36, 123, 97, 125] (by decide) (Q8.nil _ _) (hst.st rfl (fun _ h => h.elim)))
  rw [exp8b] at HEB
  clear hst hb4 HNB HB0 hRm hRB hfb
  go_wp2_with fail
  refine HEB.out.mono ?_
  rintro e w5 ⟨rfl, hst5, hk5⟩
  have hex : expV (.bad 22 [97] []) = .tuple #[.string ⟨#[]⟩, .int .i64 22, .string ⟨#[97]⟩] := rfl
  rw [hex]
  have HB5 := Lib.hid (show Below w3.heap.size w3 w5 from HB4.out.trans ((hk5.under (own8_base (HST4.out.st (X := fun _ => False) rfl (fun _ h => h.elim)))).mono HRB.out))
  have hfin := HST3.out.below HB5.out
  obtain ⟨vv, hvv, _⟩ := hfin
  have HFB := Lib.hid (HB3.out.trans (HB5.out.mono HB3.out.size))
  have HKN := Lib.hid (fun n => known8_any S.T 2 (w5.drewN n) (show (w5.drewN n).cell? _ = _ by rw [show (w5.drewN n).cell? ⟨S.T, 4, none⟩ = w5.cell? ⟨S.T, 4, none⟩ from rfl, cell_of_row _ _ 4 _ _ (0, 0) hvv.tab]; rfl) (by omega))
  clear hst5 hk5 hex HEB hvv
  have HK0 := Lib.hid (HKN.out 0)
  have HK1 := Lib.hid (HKN.out 1)
  go_upto_region 5 with fail
  clear HK1
  go_wp2_with fail
  refine HK0.out.mono ?_
  rintro e w6 ⟨rfl, rfl⟩
  go_wp2
  go_ret
  exact ⟨rfl, HFB.out⟩
end Go.Proofs.Ythfholnnkdoagaa
