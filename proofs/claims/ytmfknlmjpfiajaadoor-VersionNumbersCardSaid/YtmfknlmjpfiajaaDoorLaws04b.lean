/-
  Layer 4: the card VersionNumbers.
-/
import Derived.Test.YtmfknlmjpfiajaaDoorDoor
import Derived.Test.YtmfknlmjpfiajaaDoorLives4
import Derived.Test.YtmfknlmjpfiajaaDoorVerNum
import Derived.Deep.QuietTactic
namespace Go.Proofs.YtmfknlmjpfiajaaDoor
set_option linter.unusedVariables false
set_option linter.unusedSimpArgs false
open Go.ChangeShapes Go.WideShapes Go.ChangeAt Go.RowKit
open Go.ChangeMaps (open_string shut_string)

theorem ten_ext (d : Nat) (h : d < 10) : (⟨#[48, 49, 50, 51, 52, 53, 54, 55, 56, 57]⟩ : ByteArray).extract d (d + 1) = str [dgC d] := by
  have hc : d = 0 ∨ d = 1 ∨ d = 2 ∨ d = 3 ∨ d = 4 ∨ d = 5 ∨ d = 6 ∨ d = 7 ∨ d = 8 ∨ d = 9 := by omega
  rcases hc with rfl | rfl | rfl | rfl | rfl | rfl | rfl | rfl | rfl | rfl <;> rfl
theorem ten_slice (k : IntKind) (d : Nat) (h : d < 10) (w : World) :
    (Instr.slice 9 (.string ⟨#[48, 49, 50, 51, 52, 53, 54, 55, 56, 57]⟩) (some (.int k (d : Int))) (some (.int k ((d : Int) + 1))) none).run Tryd.prog w = .ok (.string (str [dgC d])) w := by
  have hs : (⟨#[48, 49, 50, 51, 52, 53, 54, 55, 56, 57]⟩ : ByteArray).size = 10 := rfl
  rw [run_slice_string w 9 _ _ _ _ _ Tryd.underlying9 (by omega) (by omega) (by rw [hs]; omega), ← ten_ext d h]; rfl
theorem digL_small {d : Nat} (h : d < 10) : digL d = [dgC d] := by rw [digL, dif_pos h]

set_option maxHeartbeats 1000000 in
theorem digits_small (d : Nat) (h : d < 10) (w : World) :
    Calls Tryd.prog 24 #[.int .u64 (d : Int)] w fun e w' => e = .returned (.string (str (digL d))) ∧ w' = w := by
  have hs := ten_slice .u64 d h
  have h1 : (0 : Int) ≤ d := by omega
  have h2 : (d : Int) < 10 := by omega
  rw [digL_small h]
  go_enter Tryd.func24, Tryd.ntmps24
  go_wp2
  go_ret
  exact ⟨rfl, rfl⟩
set_option maxHeartbeats 2000000 in
theorem digits_any (n : Nat) (hn : n ≤ 18446744073709551615) (w : World) :
    Calls Tryd.prog 24 #[.int .u64 (n : Int)] w fun e w' => e = .returned (.string (str (digL n))) ∧ w' = w := by
  induction n using Nat.strongRecOn generalizing w with
  | _ n ih =>
    by_cases h : n < 10
    · exact digits_small n h w
    · have i1 := fun w => ih (n / 10) (by omega) (by omega) w
      have i2 := fun w => digits_small (n % 10) (by omega) w
      rw [show ((n / 10 : Nat) : Int) = (n : Int) / 10 by omega] at i1
      rw [show ((n % 10 : Nat) : Int) = (n : Int) % 10 by omega] at i2
      have hl : (str (digL (n / 10))).size ≤ 20 := by rw [size_str]; exact digL_len _ 19 (by omega)
      have hl2 : (str (digL (n % 10))).size ≤ 20 := by rw [size_str, digL_small (by omega)]; simp
      have HD := Lib.hid (show str (digL (n / 10)) ++ str (digL (n % 10)) = str (digL n) by
        conv => rhs; rw [digL, dif_neg h]
        rw [app_str, digL_small (d := n % 10) (by omega)])
      have I1 := Lib.hid i1
      have I2 := Lib.hid i2
      have h1 : (10 : Int) ≤ n := by omega
      have h2 : (n : Int) ≤ 18446744073709551615 := by omega
      clear ih i1 i2 h hn
      go_enter Tryd.func24, Tryd.ntmps24
      go_wp2_with fail
      with_reducible refine (I1.out _).mono ?_
      rintro e w1 ⟨rfl, rfl⟩
      go_wp2_with fail
      refine (I2.out _).mono ?_
      rintro e w2 ⟨rfl, rfl⟩
      go_wp2
      go_ret
      exact ⟨ret_str HD.out, rfl⟩

/-- the tail of digits -/
def tailOf : List UInt8 → List UInt8
  | l => l.map fun c => dgC (c.toNat % 10)
theorem tailOf_all (l : List UInt8) : allDg (tailOf l) := by
  intro c hc
  unfold tailOf at hc
  obtain ⟨d, _, rfl⟩ := List.mem_map.1 hc
  rw [dg1 (Nat.mod_lt _ (by omega))]
  omega
theorem app_data (a : List UInt8) (x : Array UInt8) : (⟨x⟩ : ByteArray) ++ str a = str (x.toList ++ a) := by
  apply ByteArray.ext
  rw [ByteArray.data_append]
  simp [str]
theorem cmp_str (x y : ByteArray) (a b : List UInt8) (r : Int) (hx : x = str a) (hy : y = str b) (ha : a.length ≤ 1000) (hb : b.length ≤ 1000) (hr : cmpB a b = r) (w : World) :
    Calls Tryd.prog 20 #[.string x, .string y] w fun e w' => e = .returned (.int .i64 r) ∧ Below w.heap.size w w' := by
  subst hx hy
  exact cmp_at _ _ r (by rw [size_str]; omega) (by rw [size_str]; omega) hr w

set_option maxHeartbeats 8000000 in
set_option maxRecDepth 100000 in
theorem numbers_walk (a b : Nat) (ha : a ≤ 18446744073709551615) (hb : b ≤ 18446744073709551615) (r : Int) (hr : sgn a b = r) (hw : ((a : Int) < b ∧ r = -1) ∨ (a = b ∧ r = 0) ∨ ((b : Int) < a ∧ r = 1)) (m : ByteArray) (hm : m.size ≤ 9223372036854775807) (w : World) :
    Calls Tryd.prog 11 #[.int .u64 (a : Int), .int .u64 (b : Int), .string m] w fun e w' => e = .returned (.bool true) ∧ Below w.heap.size w w' := by
  have D1 := Lib.hid (fun w => digits_any a ha w)
  have D2 := Lib.hid (fun w => digits_any b hb w)
  have la := digL_len a 19 (by omega)
  have lb := digL_len b 19 (by omega)
  have k1 : cmpB (digL a) (digL b) = r := by rw [cmp_digits, hr]
  have k2 : cmpB (49 :: 46 :: digL a) (49 :: 46 :: digL b) = r := by rw [cmp_one a b (.inl rfl), hr]
  have k3 : cmpB (49 :: 45 :: digL a) (49 :: 45 :: digL b) = r := by rw [cmp_one a b (.inr rfl), hr]
  have k4 : ∀ t, allDg t → cmpB (49 :: 46 :: (digL a ++ t)) (49 :: 46 :: (digL b ++ t)) = r := fun t ht => by rw [cmp_tail a b ht, hr]
  have C1 := Lib.hid (fun w => cmp_str (str (digL a)) (str (digL b)) _ _ r rfl rfl (by omega) (by omega) k1 w)
  have C2 := Lib.hid (fun w => cmp_str (⟨#[49, 46]⟩ ++ str (digL a)) (⟨#[49, 46]⟩ ++ str (digL b)) (49 :: 46 :: digL a) (49 :: 46 :: digL b) r (app_data _ _) (app_data _ _) (by simp; omega) (by simp; omega) k2 w)
  have C3 := Lib.hid (fun w => cmp_str (⟨#[49, 45]⟩ ++ str (digL a)) (⟨#[49, 45]⟩ ++ str (digL b)) (49 :: 45 :: digL a) (49 :: 45 :: digL b) r (app_data _ _) (app_data _ _) (by simp; omega) (by simp; omega) k3 w)
  have C4 := Lib.hid (fun t (ht : allDg t) (hl : t.length ≤ 30) w => cmp_str (⟨#[49, 46]⟩ ++ str (digL a) ++ str t) (⟨#[49, 46]⟩ ++ str (digL b) ++ str t) (49 :: 46 :: (digL a ++ t)) (49 :: 46 :: (digL b ++ t)) r (by rw [app_data]; exact app_str _ _) (by rw [app_data]; exact app_str _ _) (by simp; omega) (by simp; omega) (k4 t ht) w)
  have sa : (str (digL a)).size ≤ 20 := by rw [size_str]; exact la
  have sb : (str (digL b)).size ≤ 20 := by rw [size_str]; exact lb
  clear k1 k2 k3 k4 la lb hr ha hb
  go_enter Tryd.func11, Tryd.ntmps11
  go_wp2_with fail
  refine (D1.out _).mono ?_
  rintro e w1 ⟨rfl, rfl⟩
  go_wp2_with fail
  refine (D2.out _).mono ?_
  rintro e w2 ⟨rfl, rfl⟩
  by_cases hm30 : 30 < m.size
  · have hmin : min 30 m.size = 30 := by omega
    have hm31 : (30 : Int) < m.size := by omega
    rcases hw with ⟨hab, rfl⟩ | ⟨rfl, rfl⟩ | ⟨hab, rfl⟩
    all_goals
      go_wp2
      obtain ⟨q, hq⟩ : ∃ q, q = m.extract 0 30 := ⟨_, rfl⟩
      rw [← hq]
      have HQL := Lib.hid (show q.data.toList.length = 30 by rw [hq]; simp; exact hmin)
      have hqs : q.size = 30 := by have := HQL.out; simpa using this
      clear hq hmin hm30 hm31 hm
      go_loopw [10, 29] (fun t i wr => ∃ k : Nat, k ≤ 30 ∧ i = .int .i64 k ∧ t = .string (str (tailOf (q.data.toList.take k))) ∧ ∃ nq, wr = w2.drewN nq) (fun _ i _ => 30 - (intOf i).toNat)
      case atStart => exact ⟨0, Nat.zero_le _, rfl, rfl, 0, rfl⟩
      case round =>
        obtain ⟨k, hk, rfl, rfl, nq0, rfl⟩ := hrel
        by_cases hlt : k < 30
        · obtain ⟨c, hc⟩ : ∃ c, q.data.toList[k]? = some c := ⟨_, List.getElem?_eq_getElem (by rw [HQL.out]; omega)⟩
          have hix := bidx q k c hc
          have HT := Lib.hid (show str (tailOf (q.data.toList.take k)) ++ str [dgC (c.toNat % 10)] = str (tailOf (q.data.toList.take (k + 1))) by
            rw [take_snoc _ k c hc, app_str]; simp [tailOf])
          have hsz : (str (tailOf (q.data.toList.take k))).size ≤ 30 := by rw [size_str]; simp [tailOf]; omega
          have hsz1 : (str [dgC (c.toNat % 10)]).size = 1 := by rw [size_str]; rfl
          have hc256 := c.toNat_lt
          have hcat : ¬ (9223372036854775807 < (str (tailOf (q.data.toList.take k))).size + (str [dgC (c.toNat % 10)]).size) := by omega
          clear hc
          obtain ⟨d, hd⟩ : ∃ d, d = c.toNat % 10 := ⟨_, rfl⟩
          have hd10 : d < 10 := by omega
          have hts := ten_slice .u8 d hd10
          rw [← hd] at HT hsz1 hcat
          have hm1 : (c.toNat : Int).tmod 10 = (d : Int) := by rw [Int.tmod_eq_emod_of_nonneg (by omega)]; omega
          have hm2 : (c.toNat : Int) % 10 = (d : Int) := by omega
          have hm3 : IntKind.u8.wrap (d : Int) = (d : Int) := by exact IntWalk.u8_in _ (by omega)
          have hm4 : IntKind.u8.wrap ((d : Int) + 1) = (d : Int) + 1 := by exact IntWalk.u8_in _ (by omega)
          have hd0 : (0 : Int) ≤ d := by omega
          have hd9 : (d : Int) < 10 := by omega
          generalize str (tailOf (q.data.toList.take k)) = acc at *
          clear hd
          go_wp2
          go_quiet (fail)
          go_wp2
          exact ⟨⟨k + 1, by omega, by go_num, by rw [HT.out], _, rfl⟩, by simp [intOf]; omega⟩
        · have HT4 := Lib.hid (C4.out (tailOf (q.data.toList.take k)) (tailOf_all _) (by simp [tailOf]; omega))
          have hsz : (str (tailOf (q.data.toList.take k))).size ≤ 30 := by rw [size_str]; simp [tailOf]; omega
          generalize str (tailOf (q.data.toList.take k)) = acc at *
          have hb0 := below_drewN (Below.refl w2.heap.size w2) nq0
          go_wp2_with fail
          refine (C1.out _).mono ?_
          rintro e x1 ⟨rfl, hb1⟩
          go_wp2_with fail
          refine (C2.out _).mono ?_
          rintro e x2 ⟨rfl, hb2⟩
          go_wp2_with fail
          refine (C3.out _).mono ?_
          rintro e x3 ⟨rfl, hb3⟩
          go_wp2_with fail
          refine (HT4.out _).mono ?_
          rintro e x4 ⟨rfl, hb4⟩
          go_wp2_with fail
          refine (lives04 _).mono ?_
          rintro e x5 ⟨rfl, hb5⟩
          have z1 := hb1.size
          have z2 := hb2.size
          have z3 := hb3.size
          have z4 := hb4.size
          have z0 : w2.heap.size = (w2.drewN nq0).heap.size := rfl
          go_wp2
          go_ret
          exact ⟨rfl, ((((hb0.trans (hb1.mono (by omega))).trans (hb2.mono (by omega))).trans (hb3.mono (by omega))).trans (hb4.mono (by omega))).trans (hb5.mono (by omega))⟩
  · have hm31 : (m.size : Int) ≤ 30 := by omega
    have hm32 : m.size ≤ 30 := by omega
    rcases hw with ⟨hab, rfl⟩ | ⟨rfl, rfl⟩ | ⟨hab, rfl⟩
    all_goals
      go_wp2
      obtain ⟨q, rfl⟩ : ∃ q, q = m := ⟨_, rfl⟩
      have HQL := Lib.hid (show q.data.toList.length = q.size by simp)
      clear hm30 hm
      go_loopw [10, 29] (fun t i wr => ∃ k : Nat, k ≤ q.size ∧ i = .int .i64 k ∧ t = .string (str (tailOf (q.data.toList.take k))) ∧ ∃ nq, wr = w2.drewN nq) (fun _ i _ => q.size - (intOf i).toNat)
      case atStart => exact ⟨0, Nat.zero_le _, rfl, rfl, 0, rfl⟩
      case round =>
        obtain ⟨k, hk, rfl, rfl, nq0, rfl⟩ := hrel
        by_cases hlt : k < q.size
        · obtain ⟨c, hc⟩ : ∃ c, q.data.toList[k]? = some c := ⟨_, List.getElem?_eq_getElem (by rw [HQL.out]; omega)⟩
          have hix := bidx q k c hc
          have HT := Lib.hid (show str (tailOf (q.data.toList.take k)) ++ str [dgC (c.toNat % 10)] = str (tailOf (q.data.toList.take (k + 1))) by
            rw [take_snoc _ k c hc, app_str]; simp [tailOf])
          have hsz : (str (tailOf (q.data.toList.take k))).size ≤ 30 := by rw [size_str]; simp [tailOf]; omega
          have hsz1 : (str [dgC (c.toNat % 10)]).size = 1 := by rw [size_str]; rfl
          have hc256 := c.toNat_lt
          have hcat : ¬ (9223372036854775807 < (str (tailOf (q.data.toList.take k))).size + (str [dgC (c.toNat % 10)]).size) := by omega
          clear hc
          obtain ⟨d, hd⟩ : ∃ d, d = c.toNat % 10 := ⟨_, rfl⟩
          have hd10 : d < 10 := by omega
          have hts := ten_slice .u8 d hd10
          rw [← hd] at HT hsz1 hcat
          have hm1 : (c.toNat : Int).tmod 10 = (d : Int) := by rw [Int.tmod_eq_emod_of_nonneg (by omega)]; omega
          have hm2 : (c.toNat : Int) % 10 = (d : Int) := by omega
          have hm3 : IntKind.u8.wrap (d : Int) = (d : Int) := by exact IntWalk.u8_in _ (by omega)
          have hm4 : IntKind.u8.wrap ((d : Int) + 1) = (d : Int) + 1 := by exact IntWalk.u8_in _ (by omega)
          have hd0 : (0 : Int) ≤ d := by omega
          have hd9 : (d : Int) < 10 := by omega
          generalize str (tailOf (q.data.toList.take k)) = acc at *
          clear hd
          go_wp2
          go_quiet (fail)
          go_wp2
          exact ⟨⟨k + 1, by omega, by go_num, by rw [HT.out], _, rfl⟩, by simp [intOf]; omega⟩
        · have HT4 := Lib.hid (C4.out (tailOf (q.data.toList.take k)) (tailOf_all _) (by simp [tailOf]; omega))
          have hsz : (str (tailOf (q.data.toList.take k))).size ≤ 30 := by rw [size_str]; simp [tailOf]; omega
          generalize str (tailOf (q.data.toList.take k)) = acc at *
          have hb0 := below_drewN (Below.refl w2.heap.size w2) nq0
          go_wp2_with fail
          refine (C1.out _).mono ?_
          rintro e x1 ⟨rfl, hb1⟩
          go_wp2_with fail
          refine (C2.out _).mono ?_
          rintro e x2 ⟨rfl, hb2⟩
          go_wp2_with fail
          refine (C3.out _).mono ?_
          rintro e x3 ⟨rfl, hb3⟩
          go_wp2_with fail
          refine (HT4.out _).mono ?_
          rintro e x4 ⟨rfl, hb4⟩
          go_wp2_with fail
          refine (lives04 _).mono ?_
          rintro e x5 ⟨rfl, hb5⟩
          have z1 := hb1.size
          have z2 := hb2.size
          have z3 := hb3.size
          have z4 := hb4.size
          have z0 : w2.heap.size = (w2.drewN nq0).heap.size := rfl
          go_wp2
          go_ret
          exact ⟨rfl, ((((hb0.trans (hb1.mono (by omega))).trans (hb2.mono (by omega))).trans (hb3.mono (by omega))).trans (hb4.mono (by omega))).trans (hb5.mono (by omega))⟩

theorem walk_VersionNumbers (a : Int) (ha : 0 ≤ a ∧ a ≤ 18446744073709551615) (b : Int) (hb : 0 ≤ b ∧ b ≤ 18446744073709551615) (m : ByteArray) (hm : m.size ≤ 9223372036854775807) (w : World) :
    Calls Tryd.prog 11 #[.int .u64 a, .int .u64 b, .string m] w fun e w' => e = .returned (.bool true) ∧ Below w.heap.size w w' := by
  obtain ⟨x, rfl⟩ : ∃ x : Nat, a = x := ⟨a.toNat, by omega⟩
  obtain ⟨y, rfl⟩ : ∃ y : Nat, b = y := ⟨b.toNat, by omega⟩
  refine numbers_walk x y (by omega) (by omega) _ rfl ?_ m hm w
  unfold sgn
  rcases Nat.lt_trichotomy x y with h | h | h
  · exact .inl ⟨by omega, by rw [if_pos h]⟩
  · exact .inr (.inl ⟨h, by rw [if_neg (by omega), if_neg (by omega)]⟩)
  · exact .inr (.inr ⟨by omega, by rw [if_neg (by omega), if_pos h]⟩)

theorem laid_met_VersionNumbers (os : Os) : laidMet Tryd.prog Rows.versionNumbersRow.laid ((laidWorld #[.int .u64 0, .int .u64 0, .string .empty] os).forCall (fun _ _ => 0) ⟨#[], #[.int .u64 0, .int .u64 0, .string .empty], []⟩).memory :=
  laidMet_of_run' 8 (by kernel_rfl) (by kernel_rfl)
theorem reads_VersionNumbers (os : Os) {H : Type} (enc : TypeId × Value → H) : ∃ places, DataW.whole enc Tryd.prog ((laidWorld #[.int .u64 0, .int .u64 0, .string .empty] os).forCall (fun _ _ => 0) ⟨#[], #[.int .u64 0, .int .u64 0, .string .empty], []⟩).memory Tryd.f11.params.toList Rows.versionNumbersSpec.vars false (#[.int .u64 0, .int .u64 0, .string .empty] : Array Value).toList 8 = some ([.lit (.int .u64 0), .lit (.int .u64 0), .lit (.string [])], [], places) :=
  ⟨[], by kernel_rfl⟩
set_option maxRecDepth 100000 in
theorem lifted_VersionNumbers (os : Os) (started : os.Started) (H : Type) (enc : TypeId × Value → H) (F : Stop.Interp) :
    ReturnsInHanded {} Tryd.checked os 11 .any ((OpenSpec.ofChange Rows.versionNumbersSpec).preRow enc Tryd.prog Tryd.f11 Rows.versionNumbersRow.domain false Rows.versionNumbersRow.laid) (((OpenSpec.ofChange Rows.versionNumbersSpec).at F).post enc Tryd.prog Tryd.f11 false true false false) := by
  obtain ⟨places, hx⟩ := reads_VersionNumbers os enc
  refine returnsInHanded_of_row (C := Tryd.checked) (s := OpenSpec.ofChange Rows.versionNumbersSpec) own_knob started (by kernel_rfl) Tryd.func11
    (witness_row_at (enc := enc) (C := Tryd.checked) false (laidWorld #[.int .u64 0, .int .u64 0, .string .empty] os) #[.int .u64 0, .int .u64 0, .string .empty] rfl (by kernel_rfl) (by kernel_rfl) (by kernel_rfl)
      (OpenSpec.preRow_of_cond 8 hx (by kernel_rfl) (fun k hk => by cases hk) (by kernel_rfl) (laid_met_VersionNumbers os))) ?_
  intro W base args ds gs before hval0 hW _ _ _ _ hsh _
  have hval : ∀ (j : Nat) t v, Tryd.f11.params[j]? = some t → args[j]? = some v → Value.okWide Tryd.prog W .any base t v := hval0
  have hW' := hW
  obtain ⟨p, q, hA0, hV, rfl, _, _⟩ := hW
  have hA : DataW.TrodAll enc Tryd.prog W 0 (fun _ => true) true Tryd.f11.params.toList args.toList ds p := hA0
  rw [Tryd.params11] at hA hval
  obtain ⟨v0, vs0, d0, ds0, p0, q0, hargs, rfl, rfl, h0, r0⟩ := trodAll_cons hA
  obtain ⟨v1, vs1, d1, ds1, p1, q1, rfl, rfl, rfl, h1, r1⟩ := trodAll_cons r0
  obtain ⟨v2, vs2, d2, ds2, p2, q2, rfl, rfl, rfl, h2, r2⟩ := trodAll_cons r1
  obtain ⟨rfl, rfl, rfl⟩ := trodAll_nil r2
  obtain rfl : args = #[v0, v1, v2] := by cases args; simp_all
  obtain ⟨rfl, rfl⟩ := trodVars_none hV
  obtain ⟨a0, rfl, rfl, rfl, w0⟩ := open_int Tryd.underlying44 (hval 0 44 v0 rfl rfl) h0
  obtain ⟨a1, rfl, rfl, rfl, w1⟩ := open_int Tryd.underlying44 (hval 1 44 v1 rfl rfl) h1
  obtain ⟨a2, rfl, rfl, rfl, w2⟩ := open_string Tryd.underlying9 (hval 2 9 v2 rfl rfl) h2
  clear hA0 hval0
  refine (walk_VersionNumbers a0 (wf_u64 w0) a1 (wf_u64 w1) a2 (by unfold maxLen at w2; exact w2) W).mono fun e W' ⟨he, hb⟩ => ?_
  subst he
  exact ⟨_, rfl, law_post (by kernel_rfl) rfl rfl rfl hW' hb⟩
theorem said_VersionNumbers : Rows.VersionNumbersSaid :=
  OpenClaim.holds_of_cond 11 Tryd.f11 rfl rfl rfl rfl rfl rfl rfl ⟨rfl, rfl, rfl, rfl, rfl⟩ rfl rfl rfl rfl rfl (by kernel_rfl) Tryd.func11 (by kernel_rfl)
    (of_decide_eq_true (by kernel_rfl)) (by unfold Func.isWrapper; first | (rw [if_pos (by decide +kernel)]; kernel_rfl) | (rw [if_neg (by decide +kernel)]; exact ⟨rfl, rfl⟩))
    (fun os started H enc _ F => by rw [OpenClaim.pre_eq_preRow]; exact lifted_VersionNumbers os started H enc F)
theorem plain_VersionNumbers (f : FuncId) (fn : Func) (hf : Tryd.pinned.checked.prog.funcNamed "pomace/pomacelaw04.VersionNumbers" = some f) (hfn : Tryd.pinned.checked.prog.funcs[f]? = some fn) :
    false = Tryd.pinned.checked.prog.looks [] ∧ ∀ (j : Nat) t, fn.params[j]? = some t → Tryd.pinned.checked.prog.wantsStandIn t = false := by
  obtain rfl : f = 11 := Option.some.inj ((show Tryd.prog.funcNamed "pomace/pomacelaw04.VersionNumbers" = some 11 by kernel_rfl).symm.trans hf) |>.symm
  obtain rfl : fn = Tryd.f11 := (Option.some.inj (Tryd.func11.symm.trans hfn)).symm
  refine ⟨by kernel_rfl, fun j t ht => ?_⟩
  rw [Tryd.params11] at ht
  have h := Array.mem_of_getElem? ht
  simp only [List.mem_toArray, List.mem_cons, List.not_mem_nil, or_false] at h
  rcases h with rfl | rfl | rfl
  all_goals first
    | exact (show Tryd.prog.wantsStandIn 44 = false by kernel_rfl)
    | exact (show Tryd.prog.wantsStandIn 9 = false by kernel_rfl)

/-- the statement of VersionNumbers: its card -/
theorem proved_VersionNumbers : Rows.VersionNumbersCardSaid :=
  Claim7.holds_tied_plain_at .later [] _ _ _ _ said_VersionNumbers (fun _ h => by cases h) (by kernel_rfl) (fun _ h => by cases h) versionNumbers_row_tie rfl ⟨rfl, rfl⟩ (by kernel_rfl) rfl plain_VersionNumbers (by kernel_rfl)

end Go.Proofs.YtmfknlmjpfiajaaDoor
