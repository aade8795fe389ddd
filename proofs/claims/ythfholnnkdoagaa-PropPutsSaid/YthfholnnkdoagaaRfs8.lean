/-
  Layer 8: the contract of prop.Refs. Own work.
-/
import Derived.Test.YthfholnnkdoagaaRe8
namespace Go.Proofs.Ythfholnnkdoagaa
set_option linter.unusedVariables false
set_option linter.unusedSimpArgs false
open Go.RowKit

theorem str8_info : (Try.prog.info? 9).map (fun i => (i.zero, i.size, i.bytes)) = some (some (.string .empty), 1, 16) := by kernel_rfl
theorem own_mvd8 {w w' : World} {base e size n : Nat} {v : Value} {xs : List Value} (h : w.ownsRow base e size v n xs) (hb : Below w.heap.size w w') : w'.ownsRow base e size v n xs := by
  refine ⟨h.1, ?_⟩
  rcases h.2 with hn | ⟨g, cap, cur, rfl, hb1, hgg, rest⟩
  · exact .inl hn
  · refine .inr ⟨g, cap, cur, rfl, hb1, ?_, rest⟩
    rw [hb.block g (Array.getElem?_eq_some_iff.1 hgg).1]
    exact hgg
def strVs (l : List (List UInt8)) : List Value := l.map fun n => .string (str n)
/-- a row of these texts, made behind w -/
def RowS (w : World) (v : Value) (l : List (List UInt8)) (w' : World) : Prop := w'.ownsRow w.heap.size 9 1 v l.length (strVs l) ∧ Below w.heap.size w w'
def RefsP8 (s : List UInt8) (w : World) (e : Ending) (w' : World) : Prop := ∃ v, e = .returned v ∧ RowS w v (refsM (s.length + 1) s) w'
theorem own_draw {w w0 : World} {v : Value} {l : List (List UInt8)} (h : RowS w0 v l w) (n : Nat) : RowS w0 v l (w.drewN n) :=
  ⟨own_mvd8 h.1 (drewN_below (Below.refl _ _) n), drewN_below h.2 n⟩
def txtLen : Value → Nat
  | .string b => b.size
  | _ => 0
set_option maxHeartbeats 2000000 in
theorem Refs8_any (s : List UInt8) (hs : s.length ≤ 1000000) (m : Int) (w : World) (hm : w.cell? ⟨0, 0, none⟩ = some (.int .i64 m)) : Calls Try.prog 12 #[.string (str s)] w (RefsP8 s w) := by
  have HM := Lib.hid (show ∀ w', Below w.heap.size w w' → w'.cell? ⟨0, 0, none⟩ = some (.int .i64 m) from fun w' hb => (hb.cell (World.block_lt_of_cell? w _ hm)).trans hm)
  clear hm
  go_enter Try.func12, Try.ntmps12
  go_wp2_with fail
  go_loopw [0, 3] (fun t0 t3 wr => ∃ (r : List UInt8) (done : List (List UInt8)), t0 = .string (str r) ∧ refsM (s.length + 1) s = done ++ refsM (r.length + 1) r ∧ r.length ≤ s.length ∧ done.length + r.length ≤ s.length ∧ RowS w t3 done wr) (fun t0 _ _ => txtLen t0)
  case atStart => exact ⟨s, [], rfl, rfl, Nat.le_refl _, by simp, World.ownsRow_nil _ _ _ _, Below.refl _ _⟩
  case round =>
    obtain ⟨r, done, rfl, hv, hr, hd, ho⟩ := hrel
    have HV := Lib.hid hv
    have HO := Lib.hid ho
    have HC := Lib.hid (cut8_any r (by omega) m wr (HM.out _ ho.2))
    clear hv ho
    go_wp2_with fail
    refine HC.out.mono ?_
    rintro e w2 ⟨⟨n, rfl⟩, hq⟩
    have HO2 := Lib.hid (own_draw HO.out n)
    cases hrf : refM8 r with
    | none =>
      rw [hrf] at hq
      dsimp only at hq
      subst hq
      have HX := Lib.hid (show refsM (r.length + 1) r = [] by rw [refsM, hrf])
      clear hrf
      go_wp2_with fail
      go_ret
      refine ⟨_, rfl, ?_⟩
      rw [HV.out, HX.out, List.append_nil]
      exact HO2.out
    | some p =>
      obtain ⟨a, nm, rest⟩ := p
      rw [hrf] at hq
      dsimp only at hq
      subst hq
      have hlen := ref_len hrf
      have HX := Lib.hid (show refsM (r.length + 1) r = nm :: refsM (rest.length + 1) rest by
        rw [refsM, hrf]
        show nm :: refsM r.length rest = _
        rw [refs_fuel (g := r.length) (g' := rest.length + 1) (by omega) (by omega)])
      have hown := HO2.out.1
      have hbs := HO2.out.2.size
      clear hrf
      generalize wr.drewN n = w3 at hown hbs HO2 ⊢
      go_wp2_with (at_builtin
                   refine app1 rfl _ _ 23 9 rfl (.string .empty) 16 w.heap.size done.length Try.underlying23 str8_info rfl _ _ rfl hown rfl rfl (by omega) (by omega) (by omega) ?_)
      intro v1 w4 ho1 hg1 hb4
      have HO4 := Lib.hid (show RowS w v1 (done ++ [nm]) w4 from ⟨by rw [List.length_append]; unfold strVs; rw [List.map_append]; exact ho1, HO2.out.2.trans hb4⟩)
      clear ho1 hg1 hb4 hown hbs
      go_wp2_with fail
      go_roundw
      case rel => exact ⟨rest, done ++ [nm], rfl, by rw [HV.out, HX.out]; simp, by omega, by rw [List.length_append, List.length_singleton]; omega, HO4.out⟩
      case measure => show (str rest).size < (str r).size; rw [size_str, size_str]; omega
end Go.Proofs.Ythfholnnkdoagaa
