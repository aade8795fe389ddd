/-
  Layer 24: the document's example holds. Own work.
-/
import Derived.Test.YtcmojpfolmcaoaaDoorParse24
import Derived.Test.YtcmojpfolmcaoaaDoorPrn24
import Derived.Test.YtcmojpfolmcaoaaDoorRefSame24
namespace Go.Proofs.YtcmojpfolmcaoaaDoor
set_option linter.unusedVariables false
set_option linter.unusedSimpArgs false
open Go.RowKit Go.Joins

def bG : ByteArray := ⟨#[103]⟩
def bA : ByteArray := ⟨#[97]⟩
def bV : ByteArray := ⟨#[49]⟩
def exP : Pn := ⟨⟨#[103]⟩, ⟨#[98]⟩, ⟨#[106, 97, 114]⟩, ⟨#[]⟩, ⟨#[50]⟩, 1⟩
/-- the example's text, line by line -/
def exL1 : List UInt8 := [112, 111, 109, 97, 99, 101, 32, 49]
def exL2 : List UInt8 := [114, 111, 111, 116, 32, 103, 58, 97, 58, 49]
def exL3 : List UInt8 := [112, 105, 110, 32, 103, 58, 98, 58, 106, 97, 114, 32, 50, 32, 99, 111, 109, 112, 105, 108, 101]
def exL4 : List UInt8 := [101, 110, 100, 32, 49]
def exS : List UInt8 := exL1 ++ 10 :: (exL2 ++ 10 :: (exL3 ++ 10 :: (exL4 ++ 10 :: [])))
def exSt : St := ⟨⟨#[103]⟩, ⟨#[97]⟩, ⟨#[49]⟩, [exP], true⟩
theorem endLine_one : endLine 1 = exL4 := by
  have : Lib.itoa ((1 : Nat) : Int) = Lib.decDigits 1 := by
    unfold Lib.itoa
    rw [if_neg (by decide)]; rfl
  unfold endLine
  rw [this, Lib.decDigits_one (by decide)]; rfl
theorem ex_lines : pcd 10 exS = [exL1, exL2, exL3, exL4, []] := by
  unfold exS
  rw [pcd_app _ _ (by decide), pcd_app _ _ (by decide), pcd_app _ _ (by decide), pcd_app _ _ (by decide)]
  rfl
theorem ex_parse : parseL exS = .inr exSt := by
  have t1 : takeM 1 exL1 st0 = some st0 := by kernel_rfl
  have t2 : takeM 2 exL2 st0 = some ⟨⟨#[103]⟩, ⟨#[97]⟩, ⟨#[49]⟩, [], false⟩ := by kernel_rfl
  have t3 : takeM 3 exL3 ⟨⟨#[103]⟩, ⟨#[97]⟩, ⟨#[49]⟩, [], false⟩ = some ⟨⟨#[103]⟩, ⟨#[97]⟩, ⟨#[49]⟩, [exP], false⟩ := by kernel_rfl
  have t4 : takeM 4 exL4 ⟨⟨#[103]⟩, ⟨#[97]⟩, ⟨#[49]⟩, [exP], false⟩ = some exSt := by
    unfold takeM
    rw [if_neg (by decide), if_neg (by decide), if_neg (by decide), if_neg (by decide)]
    have : exL4 = endLine [exP].length := endLine_one.symm
    rw [if_pos this]
    rfl
  unfold parseL
  rw [ex_lines]
  unfold goM
  rw [t1]
  simp only
  unfold goM
  rw [t2]
  simp only
  unfold goM
  rw [t3]
  simp only
  unfold goM
  rw [t4]
  simp only
  unfold goM
  rfl
theorem ex_print : printL ⟨#[103]⟩ ⟨#[97]⟩ ⟨#[49]⟩ [exP] = exS := (parse_back ex_parse).1
theorem ex_may : mayLock ⟨#[103]⟩ ⟨#[97]⟩ ⟨#[49]⟩ [exP] = true := (parse_back ex_parse).2
theorem ex_same : sameLk ⟨#[103]⟩ ⟨#[97]⟩ ⟨#[49]⟩ [exP] ⟨#[103]⟩ ⟨#[97]⟩ ⟨#[49]⟩ [exP] = true := by kernel_rfl
set_option maxRecDepth 100000 in
theorem ex_results (tmps : Array Value) (w : World) (R : Nat) (y0 y1 y2 y3 : Value) (h2 : tmps.getD 0 undef = .pointer (some ⟨R, 0, none⟩))
    (hR : w.heap[R]? = some (.cells #[y0, y1, y2, y3] 26 (0, 0))) :
    (results Tryd.f17 tmps).run Tryd.prog w = .ok (.agg #[y0, y1, y2, y3]) w := by
  have h2' : tmps[0]?.getD undef = .pointer (some ⟨R, 0, none⟩) := by simpa using h2
  have l1 := run_loadVar_row w R 26 26 #[y0, y1, y2, y3] (0, 0) _ hR Tryd.underlying26 rfl (by kernel_rfl)
  simp [results, Tryd.results17, h2', asAddr, l1]
def ExP (w : World) (e : Ending) (w' : World) : Prop :=
  ∃ b, e = .returned (.agg #[.string ⟨#[103]⟩, .string ⟨#[97]⟩, .string ⟨#[49]⟩, .slice (some ⟨b, 0, none⟩) 1 1]) ∧ RdN w' (.slice (some ⟨b, 0, none⟩) 1 1) [exP] ∧ Below w.heap.size w w'
set_option maxRecDepth 100000 in
set_option maxHeartbeats 1000000 in
theorem example_any (w : World) : Calls Tryd.prog 17 #[] w (ExP w) := by
  go_enter Tryd.func17, Tryd.ntmps17
  go_wp2
  have h0 : ((w.alloc (.cells #[.string ⟨#[103]⟩, .string ⟨#[97]⟩, .string ⟨#[49]⟩, .slice (some ⟨w.heap.size + 1, 0, none⟩) 1 1] 26)).alloc (.cells #[.string ⟨#[103]⟩, .string ⟨#[98]⟩, .string ⟨#[106, 97, 114]⟩, .string ⟨#[]⟩, .string ⟨#[50]⟩, .int .i64 1] 42)).heap[w.heap.size]? = some (.cells #[.string ⟨#[103]⟩, .string ⟨#[97]⟩, .string ⟨#[49]⟩, .slice (some ⟨w.heap.size + 1, 0, none⟩) 1 1] 26 (0, 0)) := (Below.heap_alloc _ _ _ (by simp)).trans (heap_alloc_new w _)
  have hb : Below w.heap.size w ((w.alloc (.cells #[.string ⟨#[103]⟩, .string ⟨#[97]⟩, .string ⟨#[49]⟩, .slice (some ⟨w.heap.size + 1, 0, none⟩) 1 1] 26)).alloc (.cells #[.string ⟨#[103]⟩, .string ⟨#[98]⟩, .string ⟨#[106, 97, 114]⟩, .string ⟨#[]⟩, .string ⟨#[50]⟩, .int .i64 1] 42)) := ((Below.refl _ _).alloc (Nat.le_refl _) _).alloc (by simp) _
  have ho : ((w.alloc (.cells #[.string ⟨#[103]⟩, .string ⟨#[97]⟩, .string ⟨#[49]⟩, .slice (some ⟨w.heap.size + 1, 0, none⟩) 1 1] 26)).alloc (.cells #[.string ⟨#[103]⟩, .string ⟨#[98]⟩, .string ⟨#[106, 97, 114]⟩, .string ⟨#[]⟩, .string ⟨#[50]⟩, .int .i64 1] 42)).ownsRow (w.heap.size + 1) 42 6 (.slice (some ⟨w.heap.size + 1, 0, none⟩) 1 1) 1 (rowN [exP]) := by
    have := World.ownsRow_lit (base := w.heap.size + 1) (e := 42) (size := 6) (w.alloc (.cells #[.string ⟨#[103]⟩, .string ⟨#[97]⟩, .string ⟨#[49]⟩, .slice (some ⟨w.heap.size + 1, 0, none⟩) 1 1] 26)) (pnCells exP).toArray 1 (by simp) (by decide) rfl
    simpa [exP, pnCells, rowN] using this
  refine bodyPost_ret (ex_results _ _ w.heap.size _ _ _ _ rfl h0) rfl ?_
  exact ⟨w.heap.size + 1, rfl, RdN.of_own ho, hb⟩
theorem keepL {w w1 w2 : World} {A0 A1 A2 A3 : Addr} {x0 x1 x2 x3 v : Value} {l : List Pn} (h : w1.cell? A0 = some x0 ∧ w1.cell? A1 = some x1 ∧ w1.cell? A2 = some x2 ∧ w1.cell? A3 = some x3 ∧ RdN w1 v l ∧ Below w.heap.size w w1) (hb : Below w1.heap.size w1 w2) :
    w2.cell? A0 = some x0 ∧ w2.cell? A1 = some x1 ∧ w2.cell? A2 = some x2 ∧ w2.cell? A3 = some x3 ∧ RdN w2 v l ∧ Below w.heap.size w w2 := by
  obtain ⟨h0, h1, h2, h3, h4, h5⟩ := h
  have hc : ∀ {A : Addr} {x : Value}, w1.cell? A = some x → w2.cell? A = some x := fun hx => (hb.cell (World.block_lt_of_cell? w1 _ hx)).trans hx
  exact ⟨hc h0, hc h1, hc h2, hc h3, h4.below hb (Nat.le_refl _), h5.trans (hb.mono h5.size)⟩
theorem keepLd {w w1 : World} {A0 A1 A2 A3 : Addr} {x0 x1 x2 x3 v : Value} {l : List Pn} (h : w1.cell? A0 = some x0 ∧ w1.cell? A1 = some x1 ∧ w1.cell? A2 = some x2 ∧ w1.cell? A3 = some x3 ∧ RdN w1 v l ∧ Below w.heap.size w w1) :
    w1.drew.cell? A0 = some x0 ∧ w1.drew.cell? A1 = some x1 ∧ w1.drew.cell? A2 = some x2 ∧ w1.drew.cell? A3 = some x3 ∧ RdN w1.drew v l ∧ Below w.heap.size w w1.drew :=
  ⟨h.1, h.2.1, h.2.2.1, h.2.2.2.1, h.2.2.2.2.1, h.2.2.2.2.2.drew⟩
theorem belowL {w w1 : World} {A0 A1 A2 A3 : Addr} {x0 x1 x2 x3 v : Value} {l : List Pn} (h : w1.cell? A0 = some x0 ∧ w1.cell? A1 = some x1 ∧ w1.cell? A2 = some x2 ∧ w1.cell? A3 = some x3 ∧ RdN w1 v l ∧ Below w.heap.size w w1) : Below w.heap.size w w1 := h.2.2.2.2.2
theorem rdL {w w1 : World} {A0 A1 A2 A3 : Addr} {x0 x1 x2 x3 v : Value} {l : List Pn} (h : w1.cell? A0 = some x0 ∧ w1.cell? A1 = some x1 ∧ w1.cell? A2 = some x2 ∧ w1.cell? A3 = some x3 ∧ RdN w1 v l ∧ Below w.heap.size w w1) : RdN w1 v l := h.2.2.2.2.1
set_option maxRecDepth 100000 in
set_option maxHeartbeats 4000000 in
theorem lives_any (w : World) (hT : Tb w) : Calls Tryd.prog 8 #[] w fun e w' => e = .returned (.bool true) ∧ Below w.heap.size w w' := by
  have hpa := Parse_any exS (by decide) w hT
  have HPA := Lib.hid hpa
  have HT := Lib.hid hT
  clear hpa hT
  go_enter Tryd.func8, Tryd.ntmps8
  go_wp2_with fail
  change Calls _ _ #[.string (str exS)] _ _
  refine HPA.out.mono ?_
  rintro e w2 (⟨st, pv, h, hE, hrd, hb⟩ | ⟨n, h, hE, hb⟩)
  case inr => rw [ex_parse] at h; cases h
  rw [ex_parse] at h
  cases h
  have hrd : RdN w2 pv [exP] := hrd
  obtain ⟨va, vc, rfl⟩ := hrd.shape
  have hE : e = .returned (.tuple #[.agg #[.string ⟨#[103]⟩, .string ⟨#[97]⟩, .string ⟨#[49]⟩, .slice va 1 vc], .int .i64 0, .int .i64 0]) := hE
  subst hE
  have hq : ((str exS).toList == [112, 111, 109, 97, 99, 101, 32, 49, 10, 114, 111, 111, 116, 32, 103, 58, 97, 58, 49, 10, 112, 105, 110, 32, 103, 58, 98, 58, 106, 97, 114, 32, 50, 32, 99, 111, 109, 112, 105, 108, 101, 10, 101, 110, 100, 32, 49, 10]) = true := by rw [lit_eq]; exact decide_eq_true rfl
  have hprint := fun (w' : World) (b : Nat) (hb' : Below w.heap.size w w') (h : RdN w' (.slice (some ⟨b, 0, none⟩) 1 1) [exP]) => Print_any ⟨#[103]⟩ ⟨#[97]⟩ ⟨#[49]⟩ (by decide) (by decide) (by decide) (.slice (some ⟨b, 0, none⟩) 1 1) [exP] (by intro p hp; simp only [List.mem_cons, List.not_mem_nil, or_false] at hp; subst hp; exact ⟨by decide, by decide, by decide, by decide, by decide⟩) (by decide) w' h (HT.out.below hb' (Nat.le_refl _))
  rw [ex_print] at hprint
  generalize str exS = sx at hq hprint
  have hsame := fun (w' : World) (b : Nat) (h0 : RdN w' (.slice va [exP].length vc) [exP]) (h : RdN w' (.slice (some ⟨b, 0, none⟩) 1 1) [exP]) => refSame_any ⟨#[103]⟩ ⟨#[97]⟩ ⟨#[49]⟩ ⟨#[103]⟩ ⟨#[97]⟩ ⟨#[49]⟩ (.slice va [exP].length vc) (.slice (some ⟨b, 0, none⟩) 1 1) [exP] [exP] (by decide) (by decide) w' h0 h
  rw [ex_same] at hsame
  have hmay := fun (w' : World) (h0 : RdN w' (.slice va [exP].length vc) [exP]) => MayL_any ⟨#[103]⟩ ⟨#[97]⟩ ⟨#[49]⟩ (by unfold okT; decide) (by unfold okT; decide) (by unfold okT; decide) (.slice va [exP].length vc) [exP] (by intro p hp; simp only [List.mem_cons, List.not_mem_nil, or_false] at hp; subst hp; exact ⟨by unfold okT; decide, by unfold okT; decide, by unfold okT; decide, by unfold okT; decide, by unfold okT; decide⟩) (by decide) w' h0
  rw [ex_may] at hmay
  have e1 : [exP].length = 1 := rfl
  rw [e1] at hrd hsame hmay
  unfold lockV at hprint hsame hmay
  have HPR := Lib.hid hprint
  have HSA := Lib.hid hsame
  have HMA := Lib.hid hmay
  have HRD := Lib.hid hrd
  have HB := Lib.hid hb
  clear hprint hsame hmay hrd hb e1
  go_upto_region 3 with fail
  have hba : Below w2.heap.size w2 (w2.alloc (.cells #[.string ⟨#[103]⟩, .string ⟨#[97]⟩, .string ⟨#[49]⟩, .slice va 1 vc] 26)) := (Below.refl _ _).alloc (Nat.le_refl _) _
  have hlk := LkIn.new w2 ⟨#[103]⟩ ⟨#[97]⟩ ⟨#[49]⟩ (.slice va 1 vc)
  have hr3 := HRD.out.below hba (Nat.le_refl _)
  have hb3 := HB.out.trans (hba.mono HB.out.size)
  generalize w2.alloc (.cells #[.string ⟨#[103]⟩, .string ⟨#[97]⟩, .string ⟨#[49]⟩, .slice va 1 vc] 26) = w3 at hlk hr3 hb3 ⊢
  generalize w2.heap.size = V at hlk ⊢
  obtain ⟨k0, k1, k2, k3⟩ := hlk
  clear hba
  go_region_held3 (fun w' => w'.cell? ⟨V, 0, none⟩ = some (.string ⟨#[103]⟩) ∧ w'.cell? ⟨V, 1, none⟩ = some (.string ⟨#[97]⟩) ∧ w'.cell? ⟨V, 2, none⟩ = some (.string ⟨#[49]⟩) ∧ w'.cell? ⟨V, 3, none⟩ = some (.slice va 1 vc) ∧ RdN w' (.slice va 1 vc) [exP] ∧ Below w.heap.size w w')
    (first | with_reducible exact keepLd ⟨k0, k1, k2, k3, hr3, hb3⟩ | with_reducible exact keepL (by assumption) (by assumption))
    (first
      | (go_at_call 17; (with_reducible refine (example_any _).mono ?_); rintro e wx ⟨bx, rfl, hrx, hbx⟩)
      | (go_at_call 11; (with_reducible refine (HPR.out _ _ (belowL (by assumption)) hrx).mono ?_); rintro e wy ⟨rfl, hby⟩)
      | (go_at_call 14; (with_reducible refine (HSA.out _ _ (rdL (by assumption)) hrx).mono ?_); rintro e wy ⟨rfl, hby⟩)
      | (go_at_call 9; (with_reducible refine (HMA.out _ (rdL (by assumption))).mono ?_); rintro e wy ⟨rfl, hby⟩))
  rename_i hS
  have HFIN := Lib.hid (belowL hS)
  clear hS
  go_wp2
  go_ret
  exact ⟨rfl, HFIN.out⟩
end Go.Proofs.YtcmojpfolmcaoaaDoor
