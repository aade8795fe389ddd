/-
  Layer 25: the statement DiffApart, its walk: edits are joined just if they may be and go together; what is joined may be, and does to any lock what both do, one behind the other. For every input. Own work.
-/
import Derived.Test.YtoibanffaebllaaLightE25
import Derived.Test.YtoibanffaebllaaRefMayE25
import Derived.Test.YtoibanffaebllaaApt25
import Derived.Test.YtoibanffaebllaaJoin25
import Derived.Test.YtoibanffaebllaaWalk25a
namespace Go.Proofs.Ytoibanffaebllaa
set_option linter.unusedVariables false
set_option linter.unusedSimpArgs false
open Go.ChangeShapes Go.WideShapes Go.ChangeAt Go.RowKit
open Go.ChangeMaps (open_string shut_string)

theorem lightE_okP {e : Ed} (h : lightE e) : okP e.new := by
  obtain ⟨_, _, h3, h4⟩ := h
  exact ⟨by unfold okT; omega, by unfold okT; omega, by unfold okT; omega, by unfold okT; omega, by unfold okT; omega⟩
theorem join_new {l m : List Ed} {e : Ed} (h : e ∈ join l m) : (∃ x ∈ l, e.new = x.new) ∨ ∃ y ∈ m, e.new = y.new := by
  obtain ⟨x, y, h1, h2, h3⟩ := mrg_src l m e h
  cases x with
  | none =>
    cases y with
    | none => simp only [joF] at h3; cases h3
    | some y => simp only [joF] at h3; cases h3; exact .inr ⟨_, h2 _ rfl, rfl⟩
  | some x =>
    cases y with
    | none => simp only [joF] at h3; cases h3; exact .inl ⟨_, h1 _ rfl, rfl⟩
    | some y =>
      simp only [joF] at h3
      split at h3 <;> cases h3
      exact .inr ⟨y, h2 _ rfl, rfl⟩
theorem joinOk_pairs (l m : List Ed) : joinOk l m = ((mayEds l && mayEds m) && pairs l m) := by
  unfold joinOk
  cases h1 : mayEds l
  · rfl
  cases h2 : mayEds m
  · rfl
  rw [togs_pairs (mayEds_ok h1).1 (mayEds_ok h2).1]; rfl
theorem take_all {α : Type} {l : List α} {n : Nat} {y : α} (h : l[n]? = some y) (f : α → Bool) : (l.take (n + 1)).all f = ((l.take n).all f && f y) := by
  rw [List.take_add_one, h]; simp [List.all_append]
/-- what Apply answers, whatever it is -/
def ApplyW (N : Nat) (w : World) (e : Ending) (w' : World) : Prop :=
  ∃ (g a u : ByteArray) (pv : Value) (m : List Pn) (c : Int), e = .returned (.tuple #[lockV g a u pv, .int .i64 c]) ∧ okT g ∧ okT a ∧ okT u ∧ (∀ p ∈ m, okP p) ∧ m.length ≤ N ∧ RdN w' pv m ∧ Below w.heap.size w w'
theorem ApplyP.weak {N : Nat} {ok : Bool} {g a u : ByteArray} {m : List Pn} {w : World} (h1 : okT g) (h2 : okT a) (h3 : okT u) (h4 : ∀ p ∈ m, okP p) (h5 : m.length ≤ N) : ∀ e w', ApplyP ok g a u m w e w' → ApplyW N w e w' := by
  rintro e w' (⟨_, pv, he, hr, hb⟩ | ⟨_, he, hb⟩)
  · exact ⟨g, a, u, pv, m, 0, he, h1, h2, h3, h4, h5, hr, hb⟩
  · exact ⟨_, _, _, _, [], 1, he, by unfold okT; decide, by unfold okT; decide, by unfold okT; decide, by simp, by simp, .inl ⟨rfl, rfl⟩, hb⟩
theorem apply_okP {A : List Pn} {E : List Ed} (hA : ∀ p ∈ A, okP p) (hE : ∀ e ∈ E, okP e.new) : ∀ p ∈ apply A E, okP p := fun p hp => by
  rcases apply_src hp with h | ⟨e, h, rfl⟩
  · exact hA p h
  · exact hE e h
theorem applyOk_join {g a u : ByteArray} {A : List Pn} {l m : List Ed} (h1 : applyOk g a u A l = true) (h2 : applyOk g a u (apply A l) m = true) : applyOk g a u A (join l m) = true ∧ apply A (join l m) = apply (apply A l) m := by
  unfold applyOk at h1 h2
  simp only [Bool.and_eq_true] at h1 h2
  obtain ⟨a1, a2, a3, a4⟩ := h1
  obtain ⟨b1, b2, b3, b4⟩ := h2
  obtain ⟨j1, j2⟩ := join_does (mayLock_ok a1) (mayLock_ok a4) a2 b2 a3 b3
  refine ⟨?_, j1⟩
  unfold applyOk
  rw [a1, join_may a2 b2, j2, j1, b4]; rfl
set_option maxRecDepth 100000 in
set_option maxHeartbeats 16000000 in
theorem walk_DiffApart (v0 : Value) (l0 : List Ed) (ol0 : ∀ e ∈ l0, okEd e) (w : World) (rd0 : RdE w v0 l0) (v1 : Value) (l1 : List Ed) (ol1 : ∀ e ∈ l1, okEd e) (rd1 : RdE w v1 l1) (ag aa au : ByteArray) (av : Value) (al : List Pn) (a1 : okR ag) (a2 : okR aa) (a3 : okR au) (a4 : ∀ p ∈ al, okK p) (ard : RdN w av al) :
    Calls Try.prog 7 #[v0, v1, lockV ag aa au av] w fun e w' => e = .returned (.bool true) ∧ Below w.heap.size w w' := by
  obtain ⟨p0, q0, rfl⟩ := rd0.shape
  obtain ⟨p1, q1, rfl⟩ := rd1.shape
  obtain ⟨pa, qa, rfl⟩ := ard.shape
  have HLV := Lib.hid lives_any
  have HE0 := Lib.hid (fun w' hr => LightE_any (.slice p0 l0.length q0) l0 ol0 w' hr)
  have HE1 := Lib.hid (fun w' hr => LightE_any (.slice p1 l1.length q1) l1 ol1 w' hr)
  have HL := Lib.hid (fun w' hr => Light_any ag aa au a1 a2 a3 (.slice pa al.length qa) al a4 w' hr)
  unfold lockV at HL ⊢
  have hb0 : Below w.heap.size w (w.alloc (.cells #[.string ag, .string aa, .string au, .slice pa al.length qa] 26)) := (Below.refl w.heap.size w).alloc (Nat.le_refl _) _
  have hk : LkIn (w.alloc (.cells #[.string ag, .string aa, .string au, .slice pa al.length qa] 26)) w.heap.size ag aa au (.slice pa al.length qa) := LkIn.new w ag aa au _
  have HR0 := Lib.hid (rd0.below hb0 (Nat.le_refl _))
  have HR1 := Lib.hid (rd1.below hb0 (Nat.le_refl _))
  have HRA := Lib.hid (ard.below hb0 (Nat.le_refl _))
  have HB0 := Lib.hid hb0
  clear rd0 rd1 ard hb0 a1 a2 a3 a4 ol0 ol1
  go_enter Try.func7, Try.ntmps7
  go_upto_region 1 with fail
  generalize w.alloc (.cells #[.string ag, .string aa, .string au, .slice pa al.length qa] 26) = w1 at hk HR0 HR1 HRA HB0 ⊢
  have HK := Lib.hid hk
  clear hk
  go_wp2_with fail
  refine (HE0.out _ HR0.out).mono ?_
  rintro e w2 ⟨bb, rfl, hl, hb⟩
  have HT0 := Lib.hid hl
  have HB2 := Lib.hid hb
  clear hl hb
  cases bb
  · go_wp2_with fail
    refine (HLV.out _).mono ?_
    rintro e wz ⟨rfl, hbz⟩
    have HZ := Lib.hid ((HB0.out.trans (HB2.out.mono HB0.out.size)).trans (hbz.mono (HB0.out.trans (HB2.out.mono HB0.out.size)).size))
    clear hbz
    go_wp2
    go_ret
    exact ⟨rfl, HZ.out⟩
  go_wp2_with fail
  refine (HE1.out _ (HR1.out.below HB2.out (Nat.le_refl _))).mono ?_
  rintro e w3 ⟨bb, rfl, hl, hb⟩
  have HT1 := Lib.hid hl
  have HB3 := Lib.hid (HB2.out.trans (hb.mono HB2.out.size))
  clear hl hb
  cases bb
  · go_wp2_with fail
    refine (HLV.out _).mono ?_
    rintro e wz ⟨rfl, hbz⟩
    have HZ := Lib.hid ((HB0.out.trans (HB3.out.mono HB0.out.size)).trans (hbz.mono (HB0.out.trans (HB3.out.mono HB0.out.size)).size))
    clear hbz
    go_wp2
    go_ret
    exact ⟨rfl, HZ.out⟩
  obtain ⟨x0, x1, x2, x3⟩ := HK.out.below HB3.out (Nat.le_refl _)
  go_wp2_with fail
  refine (HL.out _ (HRA.out.below HB3.out (Nat.le_refl _))).mono ?_
  rintro e w4 ⟨bb, rfl, hl, hb⟩
  have HTA := Lib.hid hl
  have HB4 := Lib.hid (HB3.out.trans (hb.mono HB3.out.size))
  clear hl hb x0 x1 x2 x3
  cases bb
  · go_wp2_with fail
    refine (HLV.out _).mono ?_
    rintro e wz ⟨rfl, hbz⟩
    have HZ := Lib.hid ((HB0.out.trans (HB4.out.mono HB0.out.size)).trans (hbz.mono (HB0.out.trans (HB4.out.mono HB0.out.size)).size))
    clear hbz
    go_wp2
    go_ret
    exact ⟨rfl, HZ.out⟩
  obtain ⟨k0, e0⟩ := HT0.out (by simp)
  obtain ⟨k1, e1⟩ := HT1.out (by simp)
  obtain ⟨g1, g2, g3, g4, g5⟩ := light_okT (HTA.out (by simp))
  have HG := Lib.hid (And.intro g1 (And.intro g2 (And.intro g3 (And.intro g4 g5))))
  have HN0 := Lib.hid (fun e he => lightE_okP (e0 e he))
  have HN1 := Lib.hid (fun e he => lightE_okP (e1 e he))
  clear HT0 HT1 HTA HE0 HE1 HL HB2 HB3 e0 e1 g1 g2 g3 g4 g5
  have hm0 := fun w' hr => refMayE_any (.slice p0 l0.length q0) l0 (by omega) w' hr
  have hm1 := fun w' hr => refMayE_any (.slice p1 l1.length q1) l1 (by omega) w' hr
  have hjp := joinOk_pairs l0 l1
  generalize mayEds l0 = m0 at hm0 hjp
  generalize mayEds l1 = m1 at hm1 hjp
  have HJP := Lib.hid hjp
  clear hjp
  have HR04 := Lib.hid (HR0.out.below HB4.out (Nat.le_refl _))
  have HR14 := Lib.hid (HR1.out.below HB4.out (Nat.le_refl _))
  go_upto_region 3 with fail
  go_cut [7] from 34 to 40 (fun t wx => t = .bool (m0 && m1) ∧ Below w4.heap.size w4 wx)
  case first =>
    have HM0 := Lib.hid hm0
    have HM1 := Lib.hid hm1
    clear hm0 hm1
    go_wp2_with fail
    refine (HM0.out _ HR04.out).mono ?_
    rintro e w5 ⟨rfl, hb⟩
    have HB5 := Lib.hid hb
    clear hb
    cases m0
    · go_wp2_with fail
      go_meet
      exact ⟨rfl, HB5.out⟩
    · go_wp2_with fail
      refine (HM1.out _ (HR14.out.below HB5.out (Nat.le_refl _))).mono ?_
      rintro e w6 ⟨rfl, hb⟩
      have HB6 := Lib.hid (HB5.out.trans (hb.mono HB5.out.size))
      clear hb
      go_wp2_with fail
      go_meet
      exact ⟨rfl, HB6.out⟩
  case rest =>
    obtain ⟨rfl, hb⟩ := hcut
    have HBC := Lib.hid (HB4.out.trans (hb.mono HB4.out.size))
    have HRC0 := Lib.hid (HR0.out.below HBC.out (Nat.le_refl _))
    have HRC1 := Lib.hid (HR1.out.below HBC.out (Nat.le_refl _))
    clear hb hm0 hm1
    generalize (m0 && m1) = b0 at HJP ⊢
    have hn0 : (l0.length : Int) ≤ 60 := by omega
    have hn1 : (l1.length : Int) ≤ 60 := by omega
    go_wp2_with fail
    go_loopw [7, 42] (fun t i wr => ∃ k : Nat, k ≤ l0.length ∧ i = .int .i64 k ∧ t = .bool (b0 && (l0.take k).all fun x => l1.all fun y => pairB x y) ∧ Below wc.heap.size wc wr) (fun _ i _ => l0.length - (intOf i).toNat)
    case atStart => exact ⟨0, by omega, rfl, by simp, Below.refl _ _⟩
    case round =>
      obtain ⟨k, hk, rfl, rfl, hb⟩ := hrel
      have HB := Lib.hid hb
      obtain ⟨I, hI⟩ : ∃ I : Int, I = (k : Int) := ⟨_, rfl⟩
      have hIt : I.toNat = k := by omega
      have hI0 : (0 : Int) ≤ I := by omega
      have HI := Lib.hid hI
      rw [← hI]
      by_cases hlt : k < l0.length
      · obtain ⟨x, hx⟩ : ∃ x, l0[k]? = some x := ⟨_, List.getElem?_eq_getElem hlt⟩
        obtain ⟨t0, rfl, _, _, _, hc1⟩ := HRC0.out.elem hx
        have h1 := RdE.atR hc1 hx hb (Nat.le_refl _)
        rw [← hIt] at h1
        have H1 := Lib.hid h1
        have hltI : I < l0.length := by omega
        have hat := take_all hx (fun x => l1.all fun y => pairB x y)
        have HAT := Lib.hid hat
        have hedin := EdIn.new wr x
        have hb1 := hb.alloc hb.size (.cells #[.string x.key.g, .string x.key.a, .string x.key.t, .string x.key.c, .bool x.had, .bool x.has, .string x.old.g, .string x.old.a, .string x.old.t, .string x.old.c, .string x.old.v, .int .i64 x.old.sc, .string x.new.g, .string x.new.a, .string x.new.t, .string x.new.c, .string x.new.v, .int .i64 x.new.sc] 50)
        generalize (l0.take k).all (fun x => l1.all fun y => pairB x y) = c0 at hat HAT ⊢
        clear hc1 hx hb h1 hI hIt hat
        go_upto_region 7 with (first
          | (refine wpList_load_ed rfl _ rfl _ rfl x H1.out ?_)
          | (refine wpList_store_ed rfl _ _ rfl _ rfl rfl x rfl ?_))
        generalize wr.alloc (.cells #[.string x.key.g, .string x.key.a, .string x.key.t, .string x.key.c, .bool x.had, .bool x.has, .string x.old.g, .string x.old.a, .string x.old.t, .string x.old.c, .string x.old.v, .int .i64 x.old.sc, .string x.new.g, .string x.new.a, .string x.new.t, .string x.new.c, .string x.new.v, .int .i64 x.new.sc] 50) = w6 at hedin hb1 ⊢
        generalize wr.heap.size = V at hedin ⊢
        have HED := Lib.hid hedin
        have HB6 := Lib.hid hb1
        have HRC16 := Lib.hid (HRC1.out.below hb1 (Nat.le_refl _))
        clear hedin hb1
        generalize hcc : (b0 && c0) = c1
        have HCC := Lib.hid hcc
        clear hcc
        go_wp2_with fail
        go_loopw [7, 48] (fun t i wr => ∃ n : Nat, n ≤ l1.length ∧ i = .int .i64 n ∧ t = .bool (c1 && (l1.take n).all fun y => pairB x y) ∧ Below w6.heap.size w6 wr) (fun _ i _ => l1.length - (intOf i).toNat)
        case atStart => exact ⟨0, by omega, rfl, by simp, Below.refl _ _⟩
        case round =>
          obtain ⟨n, hn, rfl, rfl, hq⟩ := hrel
          have HQ := Lib.hid hq
          obtain ⟨J, hJ⟩ : ∃ J : Int, J = (n : Int) := ⟨_, rfl⟩
          have hJt : J.toNat = n := by omega
          have hJ0 : (0 : Int) ≤ J := by omega
          have HJ := Lib.hid hJ
          rw [← hJ]
          by_cases hltn : n < l1.length
          · obtain ⟨y, hy⟩ : ∃ y, l1[n]? = some y := ⟨_, List.getElem?_eq_getElem hltn⟩
            obtain ⟨t1, rfl, _, _, _, hc2⟩ := HRC16.out.elem hy
            have h2 := RdE.atR hc2 hy hq (Nat.le_refl _)
            rw [← hJt] at h2
            have H2 := Lib.hid h2
            have hltJ : J < l1.length := by omega
            have HAT2 := Lib.hid (take_all hy (fun y => pairB x y))
            have hedy := EdIn.new wr y
            have hed1 := HED.out.below hq (Nat.le_refl _)
            have hb7 := hq.alloc hq.size (.cells #[.string y.key.g, .string y.key.a, .string y.key.t, .string y.key.c, .bool y.had, .bool y.has, .string y.old.g, .string y.old.a, .string y.old.t, .string y.old.c, .string y.old.v, .int .i64 y.old.sc, .string y.new.g, .string y.new.a, .string y.new.t, .string y.new.c, .string y.new.v, .int .i64 y.new.sc] 50)
            have hedx := hed1.below ((Below.refl wr.heap.size wr).alloc (Nat.le_refl _) (.cells #[.string y.key.g, .string y.key.a, .string y.key.t, .string y.key.c, .bool y.had, .bool y.has, .string y.old.g, .string y.old.a, .string y.old.t, .string y.old.c, .string y.old.v, .int .i64 y.old.sc, .string y.new.g, .string y.new.a, .string y.new.t, .string y.new.c, .string y.new.v, .int .i64 y.new.sc] 50)) (Nat.le_refl _)
            generalize hdd : (c1 && (l1.take n).all fun y => pairB x y) = d1
            have HDD := Lib.hid hdd
            clear hc2 hy hq h2 hJ hJt hdd hed1
            go_upto_region 10 with (first
              | (refine wpList_load_ed rfl _ rfl _ rfl y H2.out ?_)
              | (refine wpList_store_ed rfl _ _ rfl _ rfl rfl y rfl ?_))
            generalize wr.alloc (.cells #[.string y.key.g, .string y.key.a, .string y.key.t, .string y.key.c, .bool y.had, .bool y.has, .string y.old.g, .string y.old.a, .string y.old.t, .string y.old.c, .string y.old.v, .int .i64 y.old.sc, .string y.new.g, .string y.new.a, .string y.new.t, .string y.new.c, .string y.new.v, .int .i64 y.new.sc] 50) = w7 at hedy hb7 hedx ⊢
            generalize wr.heap.size = V2 at hedy ⊢
            have HB7 := Lib.hid hb7
            have HPB := Lib.hid (show pairB x y = (!(sameK x.key y.key) || ((x.has == y.had) && sameP x.new y.old)) from rfl)
            generalize pairB x y = PB at HPB HAT2
            simp only [Act.put]
            clear hb7
            cases d1
            · clear hedy hedx
              go_wp2
              go_roundw
              case rel => exact ⟨n + 1, by omega, by rw [HJ.out]; go_num, by rw [HAT2.out, ← Bool.and_assoc, HDD.out]; rfl, HB7.out⟩
              case measure => rw [HJ.out]; simp [intOf]; omega
            have hk := fun w => neq_key x.key y.key w
            have hpe := fun w => eq_pin x.new y.old w
            have hbe : ∀ w, (binOp .eql 4 (.bool x.has) (.bool y.had)).run Try.prog w = .ok (.bool (x.has == y.had)) w := fun w => by cases x.has <;> cases y.had <;> rfl
            generalize sameK x.key y.key = s1 at hk HPB
            generalize sameP x.new y.old = s2 at hpe HPB
            generalize (x.has == y.had) = s3 at hbe HPB
            obtain ⟨x0, x1, x2, x3, _, x5, _, _, _, _, _, _, x12, x13, x14, x15, x16, x17⟩ := hedx
            obtain ⟨y0, y1, y2, y3, y4, _, y6, y7, y8, y9, y10, y11, _, _, _, _, _, _⟩ := hedy
            cases s1
            · skip
              go_wp2
              go_roundw
              case rel => exact ⟨n + 1, by omega, by rw [HJ.out]; go_num, by rw [HAT2.out, ← Bool.and_assoc, HDD.out, HPB.out]; rfl, HB7.out⟩
              case measure => rw [HJ.out]; simp [intOf]; omega
            cases s3
            · skip
              go_wp2
              go_roundw
              case rel => exact ⟨n + 1, by omega, by rw [HJ.out]; go_num, by rw [HAT2.out, ← Bool.and_assoc, HDD.out, HPB.out]; rfl, HB7.out⟩
              case measure => rw [HJ.out]; simp [intOf]; omega
            · skip
              go_wp2
              go_roundw
              case rel => exact ⟨n + 1, by omega, by rw [HJ.out]; go_num, by rw [HAT2.out, ← Bool.and_assoc, HDD.out, HPB.out]; rfl, HB7.out⟩
              case measure => rw [HJ.out]; simp [intOf]; omega
          · have hlt' : (l1.length : Int) ≤ J := by have := HJ.out; omega
            have HAL := Lib.hid (show (l1.take n).all (fun y => pairB x y) = l1.all fun y => pairB x y by rw [List.take_of_length_le (by omega)])
            clear hq hJ hJt
            go_wp2
            go_roundw
            case rel => exact ⟨k + 1, by omega, by rw [HI.out]; go_num, by rw [HAT.out, HAL.out, ← HCC.out, Bool.and_assoc], HB6.out.trans (HQ.out.mono HB6.out.size)⟩
            case measure => rw [HI.out]; simp [intOf]; omega
      · have hlt' : (l0.length : Int) ≤ I := by have := HI.out; omega
        rw [show (b0 && (l0.take k).all fun x => l1.all fun y => pairB x y) = joinOk l0 l1 by rw [HJP.out, List.take_of_length_le (by omega)]; rfl]
        have HBR := Lib.hid (HBC.out.trans (hb.mono HBC.out.size))
        clear hb hI hIt HJP HB HRC0 HRC1
        obtain ⟨g1, g2, g3, g4, g5⟩ := HG.out
        have hw1 := fun w' r1 r2 => Apply_any ag aa au g1 g2 g3 (.slice pa al.length qa) (.slice p0 l0.length q0) al l0 g4 HN0.out (by omega) (by omega) w' r1 r2
        have hw2 := fun (g a u : ByteArray) (h1 : okT g) (h2 : okT a) (h3 : okT u) (pv : Value) (m : List Pn) (h4 : ∀ p ∈ m, okP p) (h5 : m.length ≤ 100) w' r1 r2 => (Apply_any g a u h1 h2 h3 pv (.slice p1 l1.length q1) m l1 h4 HN1.out (by omega) (by omega) w' r1 r2).mono (ApplyP.weak (N := 200) h1 h2 h3 (apply_okP h4 HN1.out) (by have := apply_len m l1; omega))
        have hA1 := apply_okP g4 HN0.out
        have hL1 := apply_len al l0
        have hw3 := fun pv w' r1 r2 => Apply_any ag aa au g1 g2 g3 pv (.slice p1 l1.length q1) (apply al l0) l1 hA1 HN1.out (by omega) (by omega) w' r1 r2
        have hj := Join_any (.slice p0 l0.length q0) (.slice p1 l1.length q1) l0 l1 (by omega) (by omega) wr (HR0.out.below HBR.out (Nat.le_refl _)) (HR1.out.below HBR.out (Nat.le_refl _))
        have hL2 := mrgJ_len l0 l1
        have hw4 := fun v w' r1 r2 => Apply_any ag aa au g1 g2 g3 (.slice pa al.length qa) v al (join l0 l1) g4 (fun e he => by rcases join_new he with ⟨x, hx, e⟩ | ⟨x, hx, e⟩ <;> rw [e]; exact HN0.out x hx; exact HN1.out x hx) (by omega) (by have : (join l0 l1).length ≤ l0.length + l1.length := hL2; omega) w' r1 r2
        have hmj := fun v w' r => refMayE_any v (join l0 l1) (by have : (join l0 l1).length ≤ l0.length + l1.length := hL2; omega) w' r
        have hL3 := apply_len (apply al l0) l1
        have hsm := fun v v' w' r r' => refSame_any ag aa au ag aa au v v' (apply (apply al l0) l1) (apply (apply al l0) l1) (by omega) (by omega) w' r r'
        rw [sameLk_self] at hsm
        unfold lockV at hw1 hw2 hw3 hw4 hsm
        generalize hJK : joinOk l0 l1 = JK at hj ⊢
        have HJ1 := Lib.hid hj
        have HW1 := Lib.hid hw1
        have HW2 := Lib.hid hw2
        have HW3 := Lib.hid hw3
        have HW4 := Lib.hid hw4
        have HMJ := Lib.hid hmj
        have HSM := Lib.hid hsm
        have HJK := Lib.hid hJK
        have HA1 := Lib.hid hA1
        have HL1 := Lib.hid hL1
        clear hj hw1 hw2 hw3 hw4 hmj hsm hJK hA1 hL1 hL2 hL3
        have hg5 : al.length ≤ 40 := g5
        have HG1 := Lib.hid g1
        have HG2 := Lib.hid g2
        have HG3 := Lib.hid g3
        have HG4 := Lib.hid g4
        clear g1 g2 g3 g4 g5 HG
        go_wp2_with fail
        refine HJ1.out.mono ?_
        rintro e w8 (⟨rfl, vj, rfl, hrj, hb8⟩ | ⟨rfl, rfl, hb8⟩)
        · have HB8 := Lib.hid (HBR.out.trans (hb8.mono HBR.out.size))
          obtain ⟨vja, vjc, rfl⟩ := hrj.shape
          have HRJ := Lib.hid hrj
          clear hb8 hrj
          have hmays : mayEds l0 = true ∧ mayEds l1 = true := by
            have := HJK.out
            unfold joinOk at this
            simp only [Bool.and_eq_true] at this
            exact ⟨this.1, this.2.1⟩
          have HJM := Lib.hid (join_may hmays.1 hmays.2)
          clear hmays
          go_wp2_with fail
          refine (HMJ.out _ _ HRJ.out).mono ?_
          rintro e w9 ⟨rfl, hb⟩
          have HB9 := Lib.hid (HB8.out.trans (hb.mono HB8.out.size))
          have HRJ9 := Lib.hid (HRJ.out.below hb (Nat.le_refl _))
          clear hb
          rw [HJM.out]
          obtain ⟨x0, x1, x2, x3⟩ := HK.out.below HB9.out (Nat.le_refl _)
          go_wp2_with fail
          refine (HW1.out _ (HRA.out.below HB9.out (Nat.le_refl _)) (HR0.out.below HB9.out (Nat.le_refl _))).mono ?_
          rintro e w10 (⟨ha1, pvb, rfl, hr, hb⟩ | ⟨ha1, rfl, hb⟩)
          · have HB10 := Lib.hid (HB9.out.trans (hb.mono HB9.out.size))
            have HRJ10 := Lib.hid (HRJ9.out.below hb (Nat.le_refl _))
            have HOK1 := Lib.hid ha1
            obtain ⟨vb, cb, rfl⟩ := hr.shape
            clear hb ha1 x0 x1 x2 x3
            have hnew := LkIn.new w10 ag aa au (.slice vb (apply al l0).length cb)
            have hal : Below w10.heap.size w10 (w10.alloc (.cells #[.string ag, .string aa, .string au, .slice vb (apply al l0).length cb] 26)) := (Below.refl _ _).alloc (Nat.le_refl _) _
            have hr := hr.below hal (Nat.le_refl _)
            have HY10 := Lib.hid (HB10.out.trans (hal.mono HB10.out.size))
            have HSB10 := Lib.hid hal
            clear hal
            unfold lockV
            go_upto_region 17 with fail
            generalize w10.alloc (.cells #[.string ag, .string aa, .string au, .slice vb (apply al l0).length cb] 26) = y10 at hnew HY10 HSB10 hr ⊢
            generalize w10.heap.size = X10 at hnew ⊢
            have HX10 := Lib.hid hnew
            clear hnew
            have HQ10 := Lib.hid hr
            clear hr
            obtain ⟨x0, x1, x2, x3⟩ := HX10.out
            go_wp2_with fail
            refine (HW3.out _ _ HQ10.out (HR1.out.below HY10.out (Nat.le_refl _))).mono ?_
            rintro e w11 (⟨ha2, pvc, rfl, hr, hb⟩ | ⟨ha2, rfl, hb⟩)
            · have HB11 := Lib.hid (HY10.out.trans (hb.mono HY10.out.size))
              have HOK2 := Lib.hid ha2
              obtain ⟨vc, cc, rfl⟩ := hr.shape
              have HRJ11 := Lib.hid ((HRJ10.out.below (HSB10.out) (Nat.le_refl _)).below hb (Nat.le_refl _))
              clear hb ha2 x0 x1 x2 x3
              have hnew := LkIn.new w11 ag aa au (.slice vc (apply (apply al l0) l1).length cc)
              have hal : Below w11.heap.size w11 (w11.alloc (.cells #[.string ag, .string aa, .string au, .slice vc (apply (apply al l0) l1).length cc] 26)) := (Below.refl _ _).alloc (Nat.le_refl _) _
              have hr := hr.below hal (Nat.le_refl _)
              have HY11 := Lib.hid (HB11.out.trans (hal.mono HB11.out.size))
              have HSB11 := Lib.hid hal
              clear hal
              unfold lockV
              go_upto_region 18 with fail
              generalize w11.alloc (.cells #[.string ag, .string aa, .string au, .slice vc (apply (apply al l0) l1).length cc] 26) = y11 at hnew HY11 HSB11 hr ⊢
              generalize w11.heap.size = X11 at hnew ⊢
              have HX11 := Lib.hid hnew
              clear hnew
              have HQ11 := Lib.hid hr
              clear hr
              have HRJ12 := Lib.hid (HRJ11.out.below HSB11.out (Nat.le_refl _))
              obtain ⟨hj1, hj2⟩ := applyOk_join HOK1.out HOK2.out
              have HJ3 := Lib.hid hj1
              have HJ4 := Lib.hid hj2
              clear hj1 hj2
              obtain ⟨x0, x1, x2, x3⟩ := HK.out.below HY11.out (Nat.le_refl _)
              go_wp2_with fail
              refine (HW4.out _ _ (HRA.out.below HY11.out (Nat.le_refl _)) HRJ12.out).mono ?_
              rw [HJ3.out, HJ4.out]
              rintro e w12 (⟨_, pvd, rfl, hr, hb⟩ | ⟨ha, _⟩)
              case inr => cases ha
              have HB12 := Lib.hid (HY11.out.trans (hb.mono HY11.out.size))
              obtain ⟨vd, cd, rfl⟩ := hr.shape
              have HC12 := Lib.hid (HX11.out.below hb (Nat.le_refl _))
              have HQC12 := Lib.hid (HQ11.out.below hb (Nat.le_refl _))
              clear hb x0 x1 x2 x3
              have hnew := LkIn.new w12 ag aa au (.slice vd (apply (apply al l0) l1).length cd)
              have hal : Below w12.heap.size w12 (w12.alloc (.cells #[.string ag, .string aa, .string au, .slice vd (apply (apply al l0) l1).length cd] 26)) := (Below.refl _ _).alloc (Nat.le_refl _) _
              have hr := hr.below hal (Nat.le_refl _)
              have HY12 := Lib.hid (HB12.out.trans (hal.mono HB12.out.size))
              have HSB12 := Lib.hid hal
              clear hal
              unfold lockV
              go_upto_region 21 with fail
              generalize w12.alloc (.cells #[.string ag, .string aa, .string au, .slice vd (apply (apply al l0) l1).length cd] 26) = y12 at hnew HY12 HSB12 hr ⊢
              generalize w12.heap.size = X12 at hnew ⊢
              have HX12 := Lib.hid hnew
              clear hnew
              have HQ12 := Lib.hid hr
              clear hr
              obtain ⟨x0, x1, x2, x3⟩ := HX12.out
              obtain ⟨z0, z1, z2, z3⟩ := HC12.out.below HSB12.out (Nat.le_refl _)
              go_wp2_with fail
              refine (HSM.out _ _ _ (HQC12.out.below HSB12.out (Nat.le_refl _)) HQ12.out).mono ?_
              rintro e w13 ⟨rfl, hb⟩
              have HB13 := Lib.hid (HY12.out.trans (hb.mono HY12.out.size))
              clear hb x0 x1 x2 x3 z0 z1 z2 z3
              go_wp2_with fail
              refine (HLV.out _).mono ?_
              rintro e wz ⟨rfl, hbz⟩
              have HZ := Lib.hid ((HB0.out.trans (HB13.out.mono HB0.out.size)).trans (hbz.mono (HB0.out.trans (HB13.out.mono HB0.out.size)).size))
              clear hbz
              go_wp2
              go_ret
              exact ⟨rfl, HZ.out⟩
            · have HB11 := Lib.hid (HY10.out.trans (hb.mono HY10.out.size))
              clear hb x0 x1 x2 x3
              have hnew := LkIn.new w11 ⟨#[]⟩ ⟨#[]⟩ ⟨#[]⟩ (.slice none 0 0)
              have hal : Below w11.heap.size w11 (w11.alloc (.cells #[.string ⟨#[]⟩, .string ⟨#[]⟩, .string ⟨#[]⟩, .slice none 0 0] 26)) := (Below.refl _ _).alloc (Nat.le_refl _) _
              have HY11 := Lib.hid (HB11.out.trans (hal.mono HB11.out.size))
              have HSB11 := Lib.hid hal
              clear hal
              unfold lockV
              go_upto_region 18 with fail
              generalize w11.alloc (.cells #[.string ⟨#[]⟩, .string ⟨#[]⟩, .string ⟨#[]⟩, .slice none 0 0] 26) = y11 at hnew HY11 HSB11 ⊢
              generalize w11.heap.size = X11 at hnew ⊢
              have HX11 := Lib.hid hnew
              clear hnew
              go_wp2_with fail
              refine (HLV.out _).mono ?_
              rintro e wz ⟨rfl, hbz⟩
              have HZ := Lib.hid ((HB0.out.trans (HY11.out.mono HB0.out.size)).trans (hbz.mono (HB0.out.trans (HY11.out.mono HB0.out.size)).size))
              clear hbz
              go_wp2
              go_ret
              exact ⟨rfl, HZ.out⟩
          · have HB10 := Lib.hid (HB9.out.trans (hb.mono HB9.out.size))
            clear hb x0 x1 x2 x3
            have hnew := LkIn.new w10 ⟨#[]⟩ ⟨#[]⟩ ⟨#[]⟩ (.slice none 0 0)
            have hal : Below w10.heap.size w10 (w10.alloc (.cells #[.string ⟨#[]⟩, .string ⟨#[]⟩, .string ⟨#[]⟩, .slice none 0 0] 26)) := (Below.refl _ _).alloc (Nat.le_refl _) _
            have HY10 := Lib.hid (HB10.out.trans (hal.mono HB10.out.size))
            have HSB10 := Lib.hid hal
            clear hal
            unfold lockV
            go_upto_region 17 with fail
            generalize w10.alloc (.cells #[.string ⟨#[]⟩, .string ⟨#[]⟩, .string ⟨#[]⟩, .slice none 0 0] 26) = y10 at hnew HY10 HSB10 ⊢
            generalize w10.heap.size = X10 at hnew ⊢
            have HX10 := Lib.hid hnew
            clear hnew
            obtain ⟨x0, x1, x2, x3⟩ := HX10.out
            go_wp2_with fail
            refine (HW2.out ⟨#[]⟩ ⟨#[]⟩ ⟨#[]⟩ (by unfold okT; decide) (by unfold okT; decide) (by unfold okT; decide) (.slice none 0 0) ([] : List Pn) (by simp) (by simp) _ (.inl ⟨rfl, rfl⟩) (HR1.out.below HY10.out (Nat.le_refl _))).mono ?_
            rintro e w20 ⟨g', a', u', pv', m', c', rfl, _, _, _, _, _, hr, hb⟩
            have HB20 := Lib.hid (HY10.out.trans (hb.mono HY10.out.size))
            obtain ⟨v20, c20, rfl⟩ := hr.shape
            clear hb x0 x1 x2 x3
            have hnew := LkIn.new w20 g' a' u' (.slice v20 m'.length c20)
            have hal : Below w20.heap.size w20 (w20.alloc (.cells #[.string g', .string a', .string u', .slice v20 m'.length c20] 26)) := (Below.refl _ _).alloc (Nat.le_refl _) _
            have HY20 := Lib.hid (HB20.out.trans (hal.mono HB20.out.size))
            have HSB20 := Lib.hid hal
            clear hal
            unfold lockV
            go_upto_region 18 with fail
            generalize w20.alloc (.cells #[.string g', .string a', .string u', .slice v20 m'.length c20] 26) = y20 at hnew HY20 HSB20 ⊢
            generalize w20.heap.size = X20 at hnew ⊢
            have HX20 := Lib.hid hnew
            clear hnew
            clear hr
            go_wp2_with fail
            refine (HLV.out _).mono ?_
            rintro e wz ⟨rfl, hbz⟩
            have HZ := Lib.hid ((HB0.out.trans (HY20.out.mono HB0.out.size)).trans (hbz.mono (HB0.out.trans (HY20.out.mono HB0.out.size)).size))
            clear hbz
            go_wp2
            go_ret
            exact ⟨rfl, HZ.out⟩
        · have HB8 := Lib.hid (HBR.out.trans (hb8.mono HBR.out.size))
          clear hb8
          obtain ⟨x0, x1, x2, x3⟩ := HK.out.below HB8.out (Nat.le_refl _)
          go_wp2_with fail
          refine (HW1.out _ (HRA.out.below HB8.out (Nat.le_refl _)) (HR0.out.below HB8.out (Nat.le_refl _))).mono ?_
          intro e w9 ha
          obtain ⟨g', a', u', pv', m', c', rfl, h1, h2, h3, h4, h5, hr, hb⟩ := ApplyP.weak (N := 100) HG1.out HG2.out HG3.out HA1.out (by have := HL1.out; omega) e w9 ha
          have HB9 := Lib.hid (HB8.out.trans (hb.mono HB8.out.size))
          obtain ⟨v9, c9, rfl⟩ := hr.shape
          clear hb ha x0 x1 x2 x3
          have hnew := LkIn.new w9 g' a' u' (.slice v9 m'.length c9)
          have hal : Below w9.heap.size w9 (w9.alloc (.cells #[.string g', .string a', .string u', .slice v9 m'.length c9] 26)) := (Below.refl _ _).alloc (Nat.le_refl _) _
          have hr := hr.below hal (Nat.le_refl _)
          have HY9 := Lib.hid (HB9.out.trans (hal.mono HB9.out.size))
          have HSB9 := Lib.hid hal
          clear hal
          unfold lockV
          go_upto_region 17 with fail
          generalize w9.alloc (.cells #[.string g', .string a', .string u', .slice v9 m'.length c9] 26) = y9 at hnew HY9 HSB9 hr ⊢
          generalize w9.heap.size = X9 at hnew ⊢
          have HX9 := Lib.hid hnew
          clear hnew
          have HQ9 := Lib.hid hr
          clear hr
          obtain ⟨x0, x1, x2, x3⟩ := HX9.out
          go_wp2_with fail
          refine (HW2.out g' a' u' h1 h2 h3 (.slice v9 m'.length c9) _ h4 h5 _ HQ9.out (HR1.out.below HY9.out (Nat.le_refl _))).mono ?_
          rintro e w20 ⟨g', a', u', pv', m', c', rfl, _, _, _, _, _, hr, hb⟩
          have HB20 := Lib.hid (HY9.out.trans (hb.mono HY9.out.size))
          obtain ⟨v20, c20, rfl⟩ := hr.shape
          clear hb x0 x1 x2 x3
          have hnew := LkIn.new w20 g' a' u' (.slice v20 m'.length c20)
          have hal : Below w20.heap.size w20 (w20.alloc (.cells #[.string g', .string a', .string u', .slice v20 m'.length c20] 26)) := (Below.refl _ _).alloc (Nat.le_refl _) _
          have HY20 := Lib.hid (HB20.out.trans (hal.mono HB20.out.size))
          have HSB20 := Lib.hid hal
          clear hal
          unfold lockV
          go_upto_region 18 with fail
          generalize w20.alloc (.cells #[.string g', .string a', .string u', .slice v20 m'.length c20] 26) = y20 at hnew HY20 HSB20 ⊢
          generalize w20.heap.size = X20 at hnew ⊢
          have HX20 := Lib.hid hnew
          clear hnew
          clear hr
          go_wp2_with fail
          refine (HLV.out _).mono ?_
          rintro e wz ⟨rfl, hbz⟩
          have HZ := Lib.hid ((HB0.out.trans (HY20.out.mono HB0.out.size)).trans (hbz.mono (HB0.out.trans (HY20.out.mono HB0.out.size)).size))
          clear hbz
          go_wp2
          go_ret
          exact ⟨rfl, HZ.out⟩
end Go.Proofs.Ytoibanffaebllaa
