/-
  Layer 29: the answer's fix. Own work.
-/
import Derived.Test.YtlcbfahaapodmaaKq29
namespace Go.Proofs.Ytlcbfahaapodmaa
set_option linter.unusedVariables false
set_option linter.unusedSimpArgs false
open Go.RowKit

def PL (P : Nat → Prop) (v : Value) : Nat → Prop := fun b => P b ∨ v.ownBlock = some b
/-- what is left, as it is made -/
structure LeftK (W : World) (P : Nat → Prop) (wr : World) (v : Value) (cs : List (List Int)) (hs : List Value) : Prop where
  gr : W.grownBy wr none
  own : wr.ownsRow W.heap.size 27 1 v cs.length hs
  len : hs.length = cs.length
  el : ∀ (j : Nat) d, cs[j]? = some d → ∃ r, hs[j]? = some r ∧ Rd1 wr (PL P v) r d
section
variable {W wr wx w13 : World} {P : Nat → Prop} {v dv : Value} {cs : List (List Int)} {hs : List Value} {c : List Int} {g cap : Nat}
theorem LeftK.nil (W : World) (P : Nat → Prop) : LeftK W P W (.slice none 0 0) [] [] :=
  ⟨World.grownBy.refl _ _, World.ownsRow_nil _ _ _ _, rfl, fun j d h => by simp at h⟩
theorem LeftK.push (h : LeftK W P wr v cs hs) (hP : ∀ b, P b → b < W.heap.size) (hgx : wr.grownBy wx none) (hd : wx.ownsRow wr.heap.size 3 1 dv c.length (c.map iV))
    (ho2 : w13.ownsRow W.heap.size 27 1 (.slice (some ⟨g, 0, none⟩) (cs.length + 1) cap) (cs.length + 1) (hs ++ [dv])) (hg2 : wx.grownBy w13 v.ownBlock) (hat : v.ownBlock = some g ∨ (wx.heap.size ≤ g ∧ g < w13.heap.size)) :
    LeftK W P w13 (.slice (some ⟨g, 0, none⟩) (cs.length + 1) cap) (cs ++ [c]) (hs ++ [dv]) := by
  have hvl : ∀ b, v.ownBlock = some b → W.heap.size ≤ b ∧ b < wr.heap.size := fun b hb => h.own.lt b hb
  have hsz := h.gr.size
  have hsx := hgx.size
  have hdl : ∀ b, dv.ownBlock = some b → wr.heap.size ≤ b ∧ b < wx.heap.size := fun b hb => hd.lt b hb
  have hgr : W.grownBy w13 none := by
    have h1 := h.gr.trans hgx
    refine ⟨hg2.os.trans h1.os, hg2.tape.trans h1.tape, hg2.output.trans h1.output, Nat.le_trans h1.size hg2.size, fun k hk _ => (hg2.block k (Nat.lt_of_lt_of_le hk h1.size) (fun e => ?_)).trans (h1.block k hk (by simp))⟩
    have := (hvl k e.symm).1
    omega
  have hgn : ¬ P g := fun hp => by
    have h1 := hP g hp
    rcases hat with hat | hat
    · have := (hvl g hat).1; omega
    · omega
  have hl0 := h.len
  refine ⟨hgr, by rw [List.length_append]; exact ho2, by rw [List.length_append, List.length_append, h.len]; rfl, fun j d hj => ?_⟩
  have hk2 : ∀ r d, Rd1 wx (fun b => PL P v b ∨ b = g) r d → Rd1 w13 (PL P (.slice (some ⟨g, 0, none⟩) (cs.length + 1) cap)) r d := fun r d hr => by
    refine (hr.keep (KeepW.of hg2 (fun b hb => .inl (.inr hb)))).less (fun b hb => .inl ?_)
    rcases hb with hb | hb
    · exact .inl (.inl hb)
    · exact .inr (Option.some.inj hb).symm
  by_cases hl : j < cs.length
  · rw [List.getElem?_append_left hl] at hj
    obtain ⟨r, k1, k2⟩ := h.el j d hj
    refine ⟨r, by rw [List.getElem?_append_left (by rw [h.len]; exact hl)]; exact k1, hk2 r d ?_⟩
    refine (k2.keep (KeepW.of hgx (fun b h => by cases h))).less (fun b hb => ?_)
    rcases hb with hb | rfl
    · exact .inl hb
    · rcases hat with hat | hat
      · exact .inl (.inr hat)
      · exact .inr hat.1
  · have := (List.getElem?_eq_some_iff.1 hj).1
    rw [List.length_append] at this
    have e : j = cs.length := by have h1 : [c].length = 1 := rfl; omega
    subst e
    rw [List.getElem?_append_right (Nat.le_refl _)] at hj
    simp at hj
    subst hj
    refine ⟨dv, by rw [List.getElem?_append_right (by omega), hl0]; simp, hk2 _ _ (Rd1.own hd (fun b hb hp => ?_))⟩
    have h1 := hdl b hb
    rcases hp with (hp | hp) | rfl
    · have := hP b hp; omega
    · have := hvl b hp; omega
    · rcases hat with hat | hat
      · have := hvl _ hat; omega
      · omega
theorem LeftK.rdk (h : LeftK W P wr v cs hs) (hP : ∀ b, P b → b < W.heap.size) : RdK wr P v cs :=
  RdK.own h.own (fun b hb hp => by have := (h.own.lt b hb).1; have := hP b hp; omega) h.len (fun j d hj => by
    obtain ⟨r, k1, k2⟩ := h.el j d hj
    exact ⟨r, k1, k2.less (fun b hb => .inl (.inl hb))⟩)
end
theorem own_grow {w wx w6 : World} {row : Option Nat} (h1 : w.grownBy wx none) (h2 : wx.grownBy w6 row) (hr : ∀ b, row = some b → w.heap.size ≤ b) : w.grownBy w6 none :=
  ⟨h2.os.trans h1.os, h2.tape.trans h1.tape, h2.output.trans h1.output, Nat.le_trans h1.size h2.size, fun k hk _ => (h2.block k (Nat.lt_of_lt_of_le hk h1.size) (fun e => by have := hr k e.symm; omega)).trans (h1.block k hk (by simp))⟩
theorem own_shape29 {w : World} {n0 n : Nat} {e : TypeId} {v : Value} {xs : List Value} (h : w.ownsRow n0 e 1 v n xs) : ∃ a c, v = .slice a n c := by
  rcases h.2 with ⟨h1, h2⟩ | ⟨g, cap, cur, h1, _⟩
  · exact ⟨none, 0, by rw [h1, h2]⟩
  · exact ⟨_, _, h1⟩
theorem fixC_snoc (n : Int) (C : Cs) (c : List Int) : fixC n (C ++ [c]) = if n ∈ c then fixC n C else fixC n C ++ [c.filter fun x => x != -n] := by
  unfold fixC
  rw [List.filter_append]
  by_cases h : n ∈ c
  · simp [h]
  · simp [h]
section
variable {w : World} {n0 K : Nat} {cv fv uv : Value} {s : TS}
set_option maxRecDepth 100000 in
set_option maxHeartbeats 2000000 in
theorem RFix29 (h : KR w n0 K cv fv uv s) (n : Int) (hn : -1000000 ≤ n ∧ n ≤ 1000000) (hl : sizeC s.C ≤ 1000000) (hf : s.fx.length ≤ 1000000) :
    Calls Try.prog 33 #[.pointer (some ⟨K, 0, none⟩), .int .i64 n] w fun e w' => e = .returned (.tuple #[]) ∧ Below n0 w w' ∧ ∃ cv' fv', KR w' n0 K cv' fv' uv { s with C := fixC n s.C, fx := s.fx ++ [n] } := by
  have hb0 : n0 ≤ w.heap.size := Nat.le_trans h.base (Nat.le_of_lt h.lt)
  have HK := Lib.hid h
  have hfx := h.fx
  have hc1 : w.cell? ⟨K, 1, none⟩ = some fv := h.cell 1
  have hcw : ∀ o, (w.alloc o).cell? ⟨K, 1, none⟩ = some fv := fun o => (h.grow (World.grownBy_alloc w o none)).cell 1
  have hfb : ∀ b, fv.ownBlock = some b → n0 ≤ b := fun b hb => (h.fx.lt b hb).1
  have hnw : IntKind.i64.wrap (-n) = -n := IntWalk.i64_in _ ⟨by omega, by omega⟩
  obtain ⟨fa, fc, hfs⟩ : ∃ fa fc, fv = .slice fa s.fx.length fc := by
    rcases hfx.2 with ⟨h1, h2⟩ | ⟨g, cap, cur, h1, _⟩
    · exact ⟨none, 0, by rw [h1, h2]⟩
    · exact ⟨_, _, h1⟩
  have HFS := Lib.hid hfs
  rw [hfs] at hfx hc1 hcw
  clear h hfs
  go_enter Try.func33, Try.ntmps33
  go_wp2_with (at_builtin; refine app29 rfl _ _ rfl w n (by rfl) (by rfl) hfx (by omega) hb0 ?_)
  intro g cap w1 ho1 hg1 hat1
  have hp := HK.out.pushFx (n := n) (g := g) (cap := cap) (by exact ho1) (by rw [HFS.out]; exact hg1) (by rw [HFS.out]; exact hat1)
  rw [HFS.out] at hp
  obtain ⟨x1, x2, hk1⟩ := hp
  have HBW := Lib.hid (show Below n0 w (w1.setCell ⟨K, 1, none⟩ (.slice (some ⟨g, 0, none⟩) (s.fx.length + 1) cap)) from ((Below.refl _ _).grown hg1 hb0 (fun k hk => hfb k (by rw [HFS.out]; exact hk))).setCell HK.out.base _)
  have HK1 := Lib.hid hk1
  clear ho1 hg1 hat1 hcw hc1 hfx hk1
  go_upto_region 1 with fail
  generalize w1.setCell ⟨K, 1, none⟩ (.slice (some ⟨g, 0, none⟩) (s.fx.length + 1) cap) = W at HBW HK1 ⊢
  have HPR := Lib.hid (show ∀ b, privK K (.slice (some ⟨g, 0, none⟩) (s.fx.length + 1) cap) uv b → b < W.heap.size from fun b hb => (HK1.out.priv b hb).1)
  have HC := Lib.hid HK1.out.C
  have hw0 : W.cell? ⟨K, 0, none⟩ = some cv := HK1.out.cell 0
  have hcl6 : s.C.length ≤ 1000000 := Nat.le_trans (size_len _) hl
  have hclI : (s.C.length : Int) ≤ 1000000 := by omega
  have HL := Lib.hid (show ∀ c ∈ s.C, c.length ≤ 1000000 from fun c hc => by have := size_mem hc; omega)
  obtain ⟨ca, cc, rows, hcv, hr1, hr2, hr3, hr4, hr5⟩ := HC.out
  have hcv : cv = .slice ca s.C.length cc := hcv
  have hr4 : ∀ (j : Nat) u, rows[j]? = some u → ∃ b, ca = some b ∧ ¬ privK K (.slice (some ⟨g, 0, none⟩) (s.fx.length + 1) cap) uv b.block ∧ W.cell? (b.add j) = some u := hr4
  have hr5 : ∀ (j : Nat) d, s.C[j]? = some d → ∃ r, rows[j]? = some r ∧ Rd1 W (privK K (.slice (some ⟨g, 0, none⟩) (s.fx.length + 1) cap) uv) r d := hr5
  rw [hcv] at hw0
  have HR4 := Lib.hid hr4
  have HR5 := Lib.hid hr5
  generalize hP : privK K (.slice (some ⟨g, 0, none⟩) (s.fx.length + 1) cap) uv = P at HPR HR4 HR5
  have HP := Lib.hid hP
  clear hcv hr1 hr2 hr3 hr4 hr5 HC hP
  go_wp2_with fail
  go_loopw [4, 25] (fun v q wr => ∃ (j : Nat) (hs : List Value), j ≤ s.C.length ∧ q = .int .i64 j ∧ LeftK W P wr v (fixC n (s.C.take j)) hs) (fun _ q _ => s.C.length - (intOf q).toNat)
  case atStart => exact ⟨0, [], by omega, rfl, LeftK.nil W P⟩
  case round =>
    obtain ⟨j, hs, hj, rfl, hlk⟩ := hrel
    obtain ⟨la, lc, rfl⟩ := own_shape29 hlk.own
    generalize hln : (fixC n (s.C.take j)).length = ln at hlk ⊢
    have HLN := Lib.hid hln
    have HLK := Lib.hid hlk
    have hgr := hlk.gr
    have hbw : W.heap.size ≤ wr.heap.size := hgr.size
    have hfl : ln ≤ 1000000 := by
      rw [← hln]
      unfold fixC
      rw [List.length_map]
      refine Nat.le_trans (List.length_filter_le _ _) ?_
      rw [List.length_take]; omega
    clear hln
    by_cases hlt : j < s.C.length
    · obtain ⟨c, hcj⟩ : ∃ c, s.C[j]? = some c := ⟨_, List.getElem?_eq_getElem hlt⟩
      obtain ⟨r, hrj, hrd⟩ := HR5.out j c hcj
      obtain ⟨b, rfl, _, hrc⟩ := HR4.out j r hrj
      have hrd2 := (hrd.keep (KeepW.of hgr (fun b h => by cases h))).reads
      obtain ⟨ra, rc, rfl, hrl, hel⟩ := reads_shape hrd2
      have hrc2 := hgr.cell hrc (by simp)
      have hjI : (j : Int) < (s.C.length : Int) := by omega
      have hcl := HL.out c (List.mem_of_getElem? hcj)
      have hclI2 : (c.length : Int) ≤ 1000000 := by omega
      have HHS := Lib.hid (has29_any (.slice ra c.length rc) c n wr hrd2)
      have HEL := Lib.hid hel
      have HTK := Lib.hid (show fixC n (s.C.take (j + 1)) = _ from by rw [take_snoc _ j c hcj, fixC_snoc])
      clear hcj hrj hrd hrc hrd2 hel hlk hgr hrl
      go_upto_region 5 with fail
      go_wp2_with fail
      refine HHS.out.mono ?_
      rintro e w2 ⟨rfl, hw2⟩
      obtain rfl : wr = w2 := hw2.symm
      clear HHS
      by_cases hm : n ∈ c
      · have hd : decide (n ∈ c) = true := decide_eq_true hm
        have HT2 := Lib.hid (HTK.out.trans (if_pos hm))
        rw [hd]
        clear hm hd
        go_wp2_with fail
        go_round
        case rel => exact ⟨j + 1, hs, by omega, by go_num, by rw [HT2.out]; exact HLK.out⟩
        case measure => simp [intOf]; omega
      · have hd : decide (n ∈ c) = false := decide_eq_false hm
        have HT2 := Lib.hid (HTK.out.trans (if_neg hm))
        rw [hd]
        clear hm hd
        go_wp2_with fail
        go_loopw [7, 34] (fun dv q wx => ∃ (k m : Nat) (da : Option Addr) (dc : Nat), k ≤ c.length ∧ q = .int .i64 k ∧ dv = .slice da m dc ∧ wr.grownBy wx none ∧ m = ((c.take k).filter fun x => x != -n).length ∧ wx.ownsRow wr.heap.size 3 1 (.slice da m dc) m (((c.take k).filter fun x => x != -n).map iV)) (fun _ q _ => c.length - (intOf q).toNat)
        case atStart => exact ⟨0, 0, none, 0, by omega, rfl, rfl, World.grownBy.refl _ _, rfl, World.ownsRow_nil _ _ _ _⟩
        case round =>
          obtain ⟨k, m, da, dc, hk, rfl, rfl, hgx, hm, hdo⟩ := hrel
          have HGX := Lib.hid hgx
          have HDO := Lib.hid hdo
          have HM := Lib.hid hm
          have hm6 : m ≤ 1000000 := by
            rw [hm]
            refine Nat.le_trans (List.length_filter_le _ _) ?_
            rw [List.length_take]; omega
          clear hm
          by_cases hlt2 : k < c.length
          · obtain ⟨x, hx⟩ : ∃ x, c[k]? = some x := ⟨_, List.getElem?_eq_getElem hlt2⟩
            obtain ⟨b2, rfl, hx3⟩ := HEL.out k x hx
            have hx4 : wr.cell? (b2.add k) = some (.int .i64 x) := hgx.cell hx3 (by simp)
            have hkI : (k : Int) < (c.length : Int) := by omega
            have HFI := Lib.hid (show (c.take (k + 1)).filter (fun x => x != -n) = (c.take k).filter (fun x => x != -n) ++ if x = -n then [] else [x] from by
              rw [take_snoc _ k x hx, List.filter_append]
              by_cases h : x = -n <;> simp [h])
            clear hx hx3 hgx
            by_cases hxn : x = -n
            · have hxb : (x == -n) = true := by simp [hxn]
              have HF2 := Lib.hid (HFI.out.trans (by rw [if_pos hxn, List.append_nil]))
              clear hxn hdo
              go_wp2_with fail
              go_round
              case rel => exact ⟨k + 1, m, da, dc, by omega, by go_num, rfl, HGX.out, by rw [HF2.out]; exact HM.out, by rw [HF2.out]; exact HDO.out⟩
              case measure => simp [intOf]; omega
            · have hxb : (x == -n) = false := by simpa using hxn
              have HF2 := Lib.hid (HFI.out.trans (by rw [if_neg hxn]))
              clear hxn
              have hbx := HGX.out.size
              go_wp2_with (at_builtin; refine app29 rfl _ _ rfl wr x (by rfl) (by rfl) hdo (by omega) hbx ?_)
              intro g6 q6 w6 ho6 hg6 hat6
              have HG6 := Lib.hid (own_grow HGX.out hg6 (fun b hb => (HDO.out.lt b hb).1))
              have HO6 := Lib.hid (show World.ownsRow w6 _ 3 1 (.slice (some ⟨g6, 0, none⟩) (m + 1) q6) (m + 1) (((c.take (k + 1)).filter fun x => x != -n).map iV) from by
                rw [HF2.out, List.map_append]
                exact ho6)
              have HM6 := Lib.hid (show m + 1 = ((c.take (k + 1)).filter fun x => x != -n).length from by rw [HF2.out, List.length_append, ← HM.out]; rfl)
              clear ho6 hg6 hat6 hdo hbx
              go_wp2_with fail
              go_round
              case rel => exact ⟨k + 1, m + 1, _, _, by omega, by go_num, rfl, HG6.out, HM6.out, HO6.out⟩
              case measure => simp [intOf]; omega
          · have hkI : (c.length : Int) ≤ (k : Int) := by omega
            have hfin : (c.take k).filter (fun x => x != -n) = c.filter fun x => x != -n := by rw [List.take_of_length_le (by omega)]
            rw [hfin] at HDO HM
            have hbx := HGX.out.size
            have hown := HLK.out.own
            have hown2 : wr.ownsRow W.heap.size 27 1 (.slice la ln lc) ln hs := by
              have h1 := hown.kept HGX.out (by cases hv : (Value.slice la ln lc).ownBlock <;> simp)
              rw [HLN.out] at h1
              exact h1
            have hbz : W.heap.size ≤ wr.heap.size := Nat.le_trans HLK.out.gr.size hbx
            clear hfin hown hbx hdo hgx
            go_wp2_with (at_builtin; refine appH29 rfl _ _ rfl wr da m dc (by rfl) (by rfl) hown2 (by omega) hbz ?_)
            intro g6 q6 w6 ho6 hg6 hat6
            have hpush := HLK.out.push (dv := .slice da m dc) (c := c.filter fun x => x != -n) (g := g6) (cap := q6) HPR.out HGX.out (by have h1 := HDO.out; rw [HM.out] at h1 ⊢; exact h1) (by rw [HLN.out]; exact ho6) hg6 hat6
            rw [← HT2.out, HLN.out] at hpush
            have HPU := Lib.hid hpush
            clear ho6 hg6 hat6 hown2 hpush
            go_wp2_with fail
            go_round
            case rel => exact ⟨j + 1, _, by omega, by go_num, HPU.out⟩
            case measure => simp [intOf]; omega
    · have hjI : (s.C.length : Int) ≤ (j : Int) := by omega
      have hall : s.C.take j = s.C := List.take_of_length_le (by omega)
      rw [hall] at HLK
      have hkw := HK1.out.grow hgr
      have hbe := HBW.out.grown hgr (Nat.le_trans hb0 HBW.out.size) (fun k h => by cases h)
      have hset := hkw.setC (v := .slice la ln lc) (cs := fixC n s.C) (by rw [HP.out]; exact HLK.out.rdk HPR.out)
      have y0 : wr.cell? ⟨K, 0, none⟩ = some cv := hkw.cell 0
      have y1 := hkw.froz 0
      have HS := Lib.hid hset.1
      have HBE := Lib.hid (hbe.setCell (p := ⟨K, 0, none⟩) HK.out.base (.slice la ln lc))
      clear hall hkw hbe hset hlk hgr
      go_wp2_with fail
      go_end0
      exact ⟨rfl, HBE.out, _, _, HS.out⟩
end
end Go.Proofs.Ytlcbfahaapodmaa
