/-
  References for what Escape writes: each is read as its byte (layer 1's, for the seats of other layers). Own work.
-/
import Derived.Test.YtldgjiohigiioaaRefRef
import Derived.Test.YtldgjiohigiioaaEsc
namespace Go.Proofs.Ytldgjiohigiioaa
set_option linter.unusedVariables false
set_option linter.unusedSimpArgs false
open Go.RowKit

/-- a number of decimal digits, with a semicolon behind it, is the letter -/
theorem refS_dec (ds r : List UInt8) (hd : ∀ c ∈ ds, (dval 10 c).isSome = true) (h1 : 1 ≤ ds.length) (h8 : ds.length ≤ 8) (h120 : ds.head? ≠ some 120) (ho : letOk (dnum 10 ds) = true) :
    refS ([38, 35] ++ ds ++ 59 :: r) = (letB (dnum 10 ds), ds.length + 3, 0) := by
  have hx : [38, 35, 120].isPrefixOf ([38, 35] ++ ds ++ 59 :: r) = false := by
    cases ds with
    | nil => simp at h1
    | cons c ds => simp at h120; simp [List.isPrefixOf]; exact fun h => h120 h.symm
  have h2 : [38, 35].isPrefixOf ([38, 35] ++ ds ++ 59 :: r) = true := by simp [List.isPrefixOf]
  unfold refS
  rw [if_neg (by rw [hx]; decide), if_pos h2]
  have hk : ([38, 35] ++ ds ++ 59 :: r)[2 + ds.length]? = some 59 := by
    rw [List.getElem?_append_right (by simp; omega)]
    have : 2 + ds.length - ([38, 35] ++ ds : List UInt8).length = 0 := by simp; omega
    rw [this]; rfl
  have hall : AllDig 10 ([38, 35] ++ ds ++ 59 :: r) 2 (2 + ds.length) := by
    intro i c a1 a2 a3
    rw [List.getElem?_append_left (by simp; omega), List.getElem?_append_right (by simp; omega)] at a3
    exact hd c (List.mem_of_getElem? a3)
  have htk : (([38, 35] ++ ds ++ 59 :: r).drop 2).take (2 + ds.length - 2) = ds := by simp
  rw [num_fin (k := 2 + ds.length) (by omega) (by omega) hall (by simp; omega) (.inr (.inr ⟨59, hk, dval_59⟩)), fin_some (by omega) hk (by rw [htk]; exact ho), htk]
  simp; omega

/-- what stands for a byte is read as that byte -/
theorem refS_esc (b : Bool) (c : UInt8) (r : List UInt8) (h : escOk b c = true) : refS (esc1 b c ++ r) = (⟨#[c]⟩, (esc1 b c).length, 0) := by
  simp [escOk] at h
  have w0 (x : List UInt8) (t : UInt8) (hp : refS (x ++ r) = (⟨#[t]⟩, x.length, 0)) (he : esc1 b c = x) (hc : c = t) : refS (esc1 b c ++ r) = (⟨#[c]⟩, (esc1 b c).length, 0) := by
    rw [he, hc]; exact hp
  have p (x y : List UInt8) : Lib.hasPrefix (x ++ y) x = true := List.isPrefixOf_iff_prefix.2 (List.prefix_append _ _)
  rcases h with (((h | h) | h) | h) | ⟨rfl, (h | h) | h⟩
  · exact w0 _ 38 (refS_word2 (p _ _)) (by subst h; cases b <;> rfl) h
  · exact w0 _ 60 (refS_word0 (p _ _)) (by subst h; cases b <;> rfl) h
  · exact w0 _ 62 (refS_word1 (p _ _)) (by subst h; cases b <;> rfl) h
  · refine w0 [38, 35, 49, 51, 59] 13 ?_ (by subst h; cases b <;> rfl) h
    exact refS_dec [49, 51] r (by decide) (by decide) (by decide) (by decide) (by decide)
  · exact w0 _ 34 (refS_word3 (p _ _)) (by subst h; rfl) h
  · refine w0 [38, 35, 57, 59] 9 ?_ (by subst h; rfl) h
    exact refS_dec [57] r (by decide) (by decide) (by decide) (by decide) (by decide)
  · refine w0 [38, 35, 49, 48, 59] 10 ?_ (by subst h; rfl) h
    exact refS_dec [49, 48] r (by decide) (by decide) (by decide) (by decide) (by decide)

theorem esc1_pos (b : Bool) (c : UInt8) : 1 ≤ (esc1 b c).length := by
  unfold esc1
  repeat' split
  all_goals simp
theorem esc1_head (b : Bool) (c : UInt8) (h : escOk b c = true) : (esc1 b c)[0]? = some 38 := by
  simp [escOk] at h
  rcases h with (((h | h) | h) | h) | ⟨rfl, (h | h) | h⟩ <;> subst h <;> (try cases b) <;> rfl

end Go.Proofs.Ytldgjiohigiioaa
