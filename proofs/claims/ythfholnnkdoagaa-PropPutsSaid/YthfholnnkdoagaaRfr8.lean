/-
  Layer 8: the contract of the answer's Refs. Own work.
-/
import Derived.Test.YthfholnnkdoagaaRfs8
namespace Go.Proofs.Ythfholnnkdoagaa
set_option linter.unusedVariables false
set_option linter.unusedSimpArgs false
open Go.RowKit

theorem ref_rest {s a n r : List UInt8} (h : refM8 s = some (a, n, r)) : s.drop (a.length + n.length + 3) = r := by
  rw [(ref_is h).1, show a ++ 36 :: 123 :: (n ++ 125 :: r) = (a ++ [36, 123] ++ n ++ [125]) ++ r by simp, List.drop_left' (by simp; omega)]
set_option maxHeartbeats 2000000 in
theorem refRefs8_any (s : List UInt8) (hs : s.length ≤ 1000000) (w : World) : Calls Try.prog 13 #[.string (str s)] w (RefsP8 s w) := by
  go_enter Try.func13, Try.ntmps13
  go_wp2_with fail
  go_loopw [0, 3] (fun t0 t3 wr => ∃ (r : List UInt8) (done : List (List UInt8)), t0 = .string (str r) ∧ refsM (s.length + 1) s = done ++ refsM (r.length + 1) r ∧ r.length ≤ s.length ∧ done.length + r.length ≤ s.length ∧ RowS w t3 done wr) (fun t0 _ _ => txtLen t0)
  case atStart => exact ⟨s, [], rfl, rfl, Nat.le_refl _, by simp, World.ownsRow_nil _ _ _ _, Below.refl _ _⟩
  case round =>
    obtain ⟨r, done, rfl, hv, hr, hd, ho⟩ := hrel
    have HV := Lib.hid hv
    have HO := Lib.hid ho
    have HC := Lib.hid (ref8_any r (by omega) wr)
    clear hv ho
    go_wp2_with fail
    refine HC.out.mono ?_
    rintro e w2 ⟨⟨n, rfl⟩, hq⟩
    have HO2 := Lib.hid (own_draw HO.out n)
    cases hrf : refM8 r with
    | none =>
      rw [hrf] at hq
      dsimp only at hq
      subst hq
      have HX := Lib.hid (show refsM (r.length + 1) r = [] by rw [refsM, hrf])
      clear hrf
      go_wp2_with fail
      go_ret
      refine ⟨_, rfl, ?_⟩
      rw [HV.out, HX.out, List.append_nil]
      exact HO2.out
    | some p =>
      obtain ⟨a, nm, rest⟩ := p
      rw [hrf] at hq
      dsimp only at hq
      subst hq
      have hlen := ref_len hrf
      have hrest := ref_rest hrf
      have HX := Lib.hid (show refsM (r.length + 1) r = nm :: refsM (rest.length + 1) rest by
        rw [refsM, hrf]
        show nm :: refsM r.length rest = _
        rw [refs_fuel (g := r.length) (g' := rest.length + 1) (by omega) (by omega)])
      have hown := HO2.out.1
      have hbs := HO2.out.2.size
      clear hrf
      generalize wr.drewN n = w3 at hown hbs HO2 ⊢
      obtain ⟨la, hla⟩ : ∃ v, v = a.length := ⟨_, rfl⟩
      obtain ⟨ln, hln⟩ : ∃ v, v = nm.length := ⟨_, rfl⟩
      rw [← hla, ← hln] at hlen hrest
      rw [← hla]
      have hsz : (str nm).size = ln := by rw [hln]; exact size_str nm
      have hszr : (str r).size = r.length := size_str r
      clear hla hln
      have h1 : IntKind.i64.wrap ((la : Int) + (ln : Int)) = (la : Int) + (ln : Int) := by rw [IntWalk.i64_in _ (by omega)]
      have h2 : IntKind.i64.wrap ((la : Int) + (ln : Int) + 3) = (la : Int) + (ln : Int) + 3 := by rw [IntWalk.i64_in _ (by omega)]
      have hle : (la : Int) + (ln : Int) + 3 ≤ ((str r).size : Int) := by rw [hszr]; omega
      have hsl : ∀ w, (Instr.slice 9 (.string (str r)) (some (.int .i64 ((la : Int) + (ln : Int) + 3))) none none).run Try.prog w = .ok (.string (str rest)) w := fun w => by
        rw [run_slice_string_from_if w 9 (str r) _ _ Try.underlying9, if_pos ⟨by omega, hle⟩]
        rw [show ((la : Int) + (ln : Int) + 3).toNat = la + ln + 3 by omega, ext_str, show (str r).data.toList = r by simp [str], hszr, List.take_of_length_le (Nat.le_refl _), hrest]
      have HLN := Lib.hid (And.intro hlen hd)
      clear hrest hle
      go_wp2_with (at_builtin
                   refine app1 rfl _ _ 23 9 rfl (.string .empty) 16 w.heap.size done.length Try.underlying23 str8_info rfl _ _ rfl hown rfl rfl (by omega) (by omega) (by omega) ?_)
      intro v1 w4 ho1 hg1 hb4
      have HO4 := Lib.hid (show RowS w v1 (done ++ [nm]) w4 from ⟨by rw [List.length_append]; unfold strVs; rw [List.map_append]; exact ho1, HO2.out.2.trans hb4⟩)
      clear ho1 hg1 hb4 hown hbs
      go_wp2_with fail
      go_roundw
      case rel => exact ⟨rest, done ++ [nm], rfl, by rw [HV.out, HX.out]; simp, by have := HLN.out; omega, by rw [List.length_append, List.length_singleton]; have := HLN.out; omega, HO4.out⟩
      case measure => show (str rest).size < (str r).size; rw [size_str, size_str]; have := HLN.out; omega
end Go.Proofs.Ythfholnnkdoagaa
