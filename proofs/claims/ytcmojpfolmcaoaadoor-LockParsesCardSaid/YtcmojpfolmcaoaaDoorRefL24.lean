/-
  Layer 24, plain: how the document's answer reads a lock, line by line; it is what the program's reading gives. Own work.
-/
import Derived.Test.YtcmojpfolmcaoaaDoorBack24
namespace Go.Proofs.YtcmojpfolmcaoaaDoor
set_option linter.unusedVariables false
set_option linter.unusedSimpArgs false
open Go.RowKit

theorem pcs_pcd : ∀ l, pcs l = pcd 58 l
  | [] => rfl
  | c :: r => by
    unfold pcs pcd
    rw [pcs_pcd r]
    rfl
def pn0 : Pn := ⟨⟨#[]⟩, ⟨#[]⟩, ⟨#[]⟩, ⟨#[]⟩, ⟨#[]⟩, 0⟩
def scR (s : ByteArray) : Int := if scopeI s ≤ 5 then scopeI s else 0
def keyR (k : List UInt8) : Option (ByteArray × ByteArray × ByteArray × ByteArray) :=
  match pcd 58 k with
  | [g, a, y] => some (str g, str a, str y, ⟨#[]⟩)
  | [g, a, y, c] => if c = [] then none else some (str g, str a, str y, str c)
  | _ => none
theorem parseKey_R (k : List UInt8) : parseKey k = match keyR k with
    | none => none
    | some (g, a, y, c) => if mayKey g a y c = true then some (g, a, y, c) else none := by
  unfold parseKey keyR
  rw [pcs_pcd]
  generalize pcd 58 k = L
  match L with
  | [] => rfl
  | [_] => rfl
  | [_, _] => rfl
  | [g, a, y] => rfl
  | [g, a, y, c] =>
    simp only
    by_cases hc : c = []
    · rw [if_neg (fun h => h.2 hc), if_pos hc]
    · rw [if_neg hc]
      by_cases hm : mayKey (str g) (str a) (str y) (str c) = true
      · rw [if_pos ⟨hm, hc⟩]; simp only; rw [if_pos hm]
      · rw [if_neg (fun h => hm h.1)]; simp only; rw [if_neg hm]
  | _ :: _ :: _ :: _ :: _ :: _ => rfl
def pinR (t : List UInt8) : Pn × Bool :=
  match pcd 32 t with
  | [x, k, v, s] => if x = wPin then (match keyR k with
      | none => (pn0, false)
      | some (g, a, y, c) => (⟨g, a, y, c, str v, scR (str s)⟩, mayP ⟨g, a, y, c, str v, scR (str s)⟩)) else (pn0, false)
  | _ => (pn0, false)
def prevR (l : List Pn) (p : Pn) : Bool := decide (l.length = 0) || prevB l[l.length - 1]? p
theorem mayAt_last (l : List Pn) (p : Pn) : mayAt (l ++ [p]) l.length = (prevR l p && mayP p) := by
  unfold mayAt prevR
  rw [List.getElem?_append_right (Nat.le_refl _)]
  simp only [Nat.sub_self, List.getElem?_cons_zero]
  by_cases h : l.length = 0
  · simp [h]
  · rw [List.getElem?_append_left (by omega)]
theorem scope_range (s : ByteArray) : 0 ≤ scopeI s ∧ scopeI s ≤ 6 := by
  rcases scope_facts s with h | h | h | h | h | h | h <;> (rw [h.1]; omega)
theorem pinM_R (x k v s : List UInt8) (st : St) : pinM [x, k, v, s] st = match keyR k with
    | none => none
    | some (g, a, y, c) => if (mayP ⟨g, a, y, c, str v, scR (str s)⟩ = true ∧ st.pins.length < 4096) ∧ prevR st.pins ⟨g, a, y, c, str v, scR (str s)⟩ = true then some ⟨st.rg, st.ra, st.rv, st.pins ++ [⟨g, a, y, c, str v, scR (str s)⟩], st.ended⟩ else none := by
  unfold pinM
  simp only
  rw [parseKey_R]
  cases hk : keyR k with
  | none => simp only; split <;> rfl
  | some q =>
    obtain ⟨g, a, y, c⟩ := q
    simp only
    have hr := scope_range (str s)
    by_cases hl : 4096 ≤ st.pins.length
    · rw [if_pos hl, if_neg (fun h => by have := h.1.2; omega)]
    · rw [if_neg hl]
      by_cases hm : mayKey g a y c = true
      · rw [if_pos hm]
        simp only
        by_cases h0 : scopeI (str s) = 0
        · rw [if_pos h0, if_neg (fun h => ?_)]
          have := (mayP_parts h.1.1).2.2.1
          unfold scR at this
          rw [h0] at this
          simp at this
        · rw [if_neg h0]
          by_cases h5 : scopeI (str s) ≤ 5
          · have hs : scR (str s) = scopeI (str s) := by unfold scR; rw [if_pos h5]
            rw [hs, mayAt_last]
            by_cases hp : mayP ⟨g, a, y, c, str v, scopeI (str s)⟩ = true
            · rw [hp, Bool.and_true]
              by_cases hq : prevR st.pins ⟨g, a, y, c, str v, scopeI (str s)⟩ = true
              · rw [if_pos hq, if_pos ⟨⟨rfl, by omega⟩, hq⟩]
              · rw [if_neg hq, if_neg (fun h => hq h.2)]
            · rw [if_neg (by rw [Bool.and_eq_true]; exact fun h => hp h.2), if_neg (fun h => hp h.1.1)]
          · rw [mayAt_last, if_neg, if_neg (fun h => ?_)]
            · have := (mayP_parts h.1.1).2.2.1
              unfold scR at this
              rw [if_neg h5] at this
              simp at this
            · rw [Bool.and_eq_true]
              intro h
              have := (mayP_parts h.2).2.2.2
              simp only at this
              omega
      · rw [if_neg hm]
        simp only
        rw [if_neg (fun h => hm (mayP_parts h.1.1).1)]
/-- a line that is neither first, nor the root's, nor the last -/
theorem pin_step {n : Nat} {t : List UInt8} {st : St} (hn : 3 ≤ n) (he : st.ended = false) (hl : t ≠ endLine st.pins.length) :
    takeM n t st = if ((pinR t).2 = true ∧ st.pins.length < 4096) ∧ prevR st.pins (pinR t).1 = true then some ⟨st.rg, st.ra, st.rv, st.pins ++ [(pinR t).1], st.ended⟩ else none := by
  unfold takeM
  rw [if_neg (by omega), if_neg (by rw [he]; simp), if_neg (by omega), if_neg hl]
  unfold pinR
  match h : pcd 32 t with
  | [] => exact absurd h (pcd_ne t)
  | [x] => simp [pinM]
  | [x, k] => simp [pinM]
  | [x, k, v] => simp [pinM]
  | [x, k, v, s] =>
    simp only [List.head?_cons, Option.some.injEq]
    by_cases hx : x = wPin
    · rw [if_pos hx, if_pos hx, pinM_R]
      cases hk : keyR k with
      | none => simp
      | some q => rfl
    · rw [if_neg hx, if_neg hx]; simp
  | x :: k :: v :: s :: u :: r => simp [pinM]
def rootR (t : List UInt8) : Option (ByteArray × ByteArray × ByteArray) :=
  match pcd 58 t with
  | [x, a, v] => if x.take 5 = wRoot ++ [32] then some (str (x.drop 5), str a, str v) else none
  | _ => none
theorem root_step {t : List UInt8} {st : St} (he : st.ended = false) :
    takeM 2 t st = match rootR t with
      | none => none
      | some (g, a, v) => if mayGav g a v = true then some ⟨g, a, v, st.pins, st.ended⟩ else none := by
  have hT : takeM 2 t st = rootM (pcd 32 t) st := by
    unfold takeM
    rw [if_neg (by omega), if_neg (by rw [he]; simp), if_pos rfl]
  rw [hT]
  have back : ∀ st', rootM (pcd 32 t) st = some st' → ∃ g a v, rootR t = some (g, a, v) ∧ mayGav g a v = true := fun st' h => by
    obtain ⟨y, g, a, v, hw, hg, -⟩ := rootM_some h
    obtain ⟨hy, hm⟩ := gav_printed hg
    have ht : t = wRoot ++ 32 :: y := by
      have := joinD_pcd (d := 32) t
      rw [hw] at this
      rw [← this]; simp [joinD]
    refine ⟨g, a, v, ?_, hm⟩
    have hm' := hm
    unfold mayGav at hm'
    simp only [Bool.and_eq_true] at hm'
    rw [printGav_data] at hy
    have hp : pcd 58 t = [wRoot ++ 32 :: g.data.toList, a.data.toList, v.data.toList] := by
      rw [ht, ← hy, show wRoot ++ 32 :: (g.data.toList ++ 58 :: (a.data.toList ++ 58 :: v.data.toList)) = (wRoot ++ 32 :: g.data.toList) ++ 58 :: (a.data.toList ++ 58 :: v.data.toList) by simp]
      rw [pcd_app _ _ (fun c hc => ?_), pcd_app _ _ (isId_colon a hm'.1.2), pcd_plain _ (mayVer_colon v hm'.2)]
      rcases List.mem_append.1 hc with h | h
      · revert h; revert c; exact fun c _ h => (show ∀ c ∈ wRoot, c ≠ (58 : UInt8) by unfold wRoot; decide) c h
      · rcases List.mem_cons.1 h with rfl | h
        · decide
        · exact isId_colon g hm'.1.1 c h
    unfold rootR
    rw [hp]
    simp [wRoot, str]
  cases hr : rootR t with
  | none =>
    simp only
    cases hx : rootM (pcd 32 t) st with
    | none => rfl
    | some st' => obtain ⟨g, a, v, h, -⟩ := back st' hx; rw [hr] at h; cases h
  | some q =>
    obtain ⟨g, a, v⟩ := q
    simp only
    by_cases hm : mayGav g a v = true
    · rw [if_pos hm]
      unfold rootR at hr
      split at hr
      · rename_i x a0 v0 hp
        split at hr
        · rename_i h5
          cases hr
          have hx : x = wRoot ++ 32 :: x.drop 5 := by
            have := List.take_append_drop 5 x
            rw [h5] at this
            rw [← this]; simp [wRoot]
          have ht : t = rootLine (str (x.drop 5)) (str a0) (str v0) := by
            have := joinD_pcd (d := 58) t
            rw [hp] at this
            rw [← this]
            unfold rootLine
            rw [printGav_data]
            simp only [str_data, joinD]
            rw [hx]
            simp [wRoot]
          rw [ht, root_words hm]
          unfold rootM
          simp only
          rw [gav_back _ _ _ hm]; simp
        · cases hr
      · cases hr
    · rw [if_neg hm]
      cases hx : rootM (pcd 32 t) st with
      | none => rfl
      | some st' => obtain ⟨g', a', v', h, hm'⟩ := back st' hx; rw [hr] at h; cases h; exact absurd hm' hm
theorem go_on {n : Nat} {x : List UInt8} {R : List (List UInt8)} {st st' : St} (h0 : R = [] → x ≠ []) (h : takeM n x st = some st') : goM n (x :: R) st = goM (n + 1) R st' := by
  match R, h0 with
  | [], h0 =>
    rw [goM, goM, if_neg (h0 rfl), h]
  | y :: r, _ =>
    rw [goM, h]
theorem go_bad {n : Nat} {x : List UInt8} {R : List (List UInt8)} {st : St} (h0 : R = [] → x ≠ []) (h : takeM n x st = none) : goM n (x :: R) st = .inl n := by
  match R, h0 with
  | [], h0 => rw [goM, if_neg (h0 rfl), h]
  | y :: r, _ => rw [goM, h]
theorem go_void {n : Nat} {st : St} (he : st.ended = false) : goM n [[]] st = .inl n := by
  rw [goM, if_pos rfl, if_neg (by rw [he]; simp)]
theorem take_endR {n : Nat} {st : St} (hn : 3 ≤ n) (he : st.ended = false) : takeM n (endLine st.pins.length) st = some ⟨st.rg, st.ra, st.rv, st.pins, true⟩ := by
  unfold takeM
  rw [if_neg (by omega), if_neg (by rw [he]; simp), if_neg (by omega), if_neg (by rw [end_words]; simp [wEnd, wPin]), if_pos rfl]
theorem endLine_ne (n : Nat) : endLine n ≠ [] := by simp [endLine, wEndS]
theorem go_end {n : Nat} {R : List (List UInt8)} {st : St} (hn : 3 ≤ n) (he : st.ended = false) : goM n (endLine st.pins.length :: R) st = if R = [[]] then .inr ⟨st.rg, st.ra, st.rv, st.pins, true⟩ else .inl (n + 1) := by
  rw [go_on (fun _ => endLine_ne _) (take_endR hn he)]
  have hno : ∀ y, takeM (n + 1) y ⟨st.rg, st.ra, st.rv, st.pins, true⟩ = none := fun y => by
    unfold takeM
    rw [if_neg (by omega), if_pos rfl]
  match R with
  | [] => rw [goM, if_neg (by simp)]
  | [y] =>
    by_cases hy : y = []
    · subst hy; rw [goM, if_pos rfl, if_pos rfl, if_pos rfl]
    · rw [go_bad (fun _ => hy) (hno y), if_neg (by simpa using hy)]
  | y :: z :: r => rw [go_bad (by simp) (hno y), if_neg (by simp)]
theorem take_firstR {t : List UInt8} {st : St} : takeM 1 t st = if t = wFirst then some st else none := by unfold takeM; rw [if_pos rfl]
end Go.Proofs.YtcmojpfolmcaoaaDoor
